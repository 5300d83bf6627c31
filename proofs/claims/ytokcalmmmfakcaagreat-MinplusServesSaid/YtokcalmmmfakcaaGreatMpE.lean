/- minplus: how high a curve is; its bend for a rate. -/
import Derived.Test.YtokcalmmmfakcaaGreatMpD
namespace Go.Proofs.YtokcalmmmfakcaaGreat
set_option linter.unusedVariables false
open Go.RowKit

/-- lines whose numbers are a curve's. -/
def MayL (l : List (Int × Int)) : Prop := ∀ x ∈ l, (0 ≤ x.1 ∧ x.1 ≤ 1000000000) ∧ 0 ≤ x.2 ∧ x.2 ≤ 1000000000
def highR (l : List (Int × Int)) (n d : Int) : Num3 := lowR (fun x => hgtR x.1 x.2 n d) l
theorem entersHigh1 : ∀ args w, (callFunc 87 args).run Tryz.prog w = .ok (.enter 87 args) w := fun args w => by simp [callFunc, Tryz.func87, Tryz.f87, mark]
theorem entersBend1 : ∀ args w, (callFunc 74 args).run Tryz.prog w = .ok (.enter 74 args) w := fun args w => by simp [callFunc, Tryz.func74, Tryz.f74, mark]
set_option maxRecDepth 100000 in
set_option maxHeartbeats 4000000 in
theorem high1_step (l : List (Int × Int)) (hm : MayL l) (n d : Int) (hn : Fit n d) (q : Nat) (w : World) (hq : HasRat w q n d) : StepN 87 #[.pointer (some ⟨q, 0, none⟩)] (fun x => hgtR x.1 x.2 n d) l w := by
  intro x hx W hW
  obtain ⟨b, r⟩ := x
  have hb := hm _ hx
  simp only at hb
  have ch := hidd (fun W' => height_any b r n d (fit_whole (by omega) (by omega)) (fit_whole (by omega) (by omega)) hn W')
  obtain ⟨q0, q1, q2⟩ := hq.step hW
  have hne : ¬ q = W.heap.size := by omega
  have hne2 : ¬ q = W.heap.size + 1 := by omega
  clear hm hn hx hb hq hW
  unfold NumEnd at ch ⊢
  dsimp only
  show Calls Tryz.prog 87 #[.agg #[.int .i64 b, .int .i64 r], .pointer (some ⟨q, 0, none⟩)] W _
  go_enter Tryz.func87, Tryz.ntmps87
  go_wp2_with fail
  refine (ch.out _).mono ?_
  rintro E w1 (⟨N, D, rfl, hN, hNr, hb1⟩ | ⟨k, rfl, hk, hk0, hb1⟩)
  case inr =>
    have HB1 := hidd (Below.trans (show Below W.heap.size W ((W.alloc (.cells #[.int .i64 b, .int .i64 r] 68)).alloc (.cells #[.int .i64 0, .int .i64 0] 66)) by (repeat' (first | (with_reducible exact Below.refl _ _) | (with_reducible assumption) | (with_reducible apply Below.setCell) | (with_reducible apply Below.alloc) | (with_reducible apply Below.drew) | (with_reducible apply below_drewN) | (with_reducible refine Below.trans ?_ (Below.mono (by assumption) ?_)) | omega | (simp; done) | (simp; omega)))) (hb1.mono (by simp; omega)))
    go_wp2_with fail
    exact ⟨rfl, .inr ⟨k, rfl, hk, hk0, HB1.out⟩⟩
  have HB1 := hidd (Below.trans (show Below W.heap.size W ((W.alloc (.cells #[.int .i64 b, .int .i64 r] 68)).alloc (.cells #[.int .i64 0, .int .i64 0] 66)) by (repeat' (first | (with_reducible exact Below.refl _ _) | (with_reducible assumption) | (with_reducible apply Below.setCell) | (with_reducible apply Below.alloc) | (with_reducible apply Below.drew) | (with_reducible apply below_drewN) | (with_reducible refine Below.trans ?_ (Below.mono (by assumption) ?_)) | omega | (simp; done) | (simp; omega)))) (hb1.mono (by simp; omega)))
  obtain ⟨g5, g0, g1, g2, g3⟩ := (GBox.new (w := W.alloc (.cells #[.int .i64 b, .int .i64 r] 68)) (b := W.heap.size + 1) (by simp) 66 0 0).step hb1
  have hs := HB1.out.size
  clear hb1
  go_wp2_with fail
  exact bodyPost_ret (v := .agg #[.int .i64 N, .int .i64 D]) (by simp [results, Tryz.results87, go_sem, *]) rfl (.inl ⟨N, D, rfl, hN, hNr, by have q := HB1.out; (repeat' (first | (with_reducible exact Below.refl _ _) | (with_reducible assumption) | (with_reducible apply Below.setCell) | (with_reducible apply Below.alloc) | (with_reducible apply Below.drew) | (with_reducible apply below_drewN) | (with_reducible refine Below.trans ?_ (Below.mono (by assumption) ?_)) | omega | (simp; done) | (simp; omega)))⟩)
set_option maxRecDepth 100000 in
set_option maxHeartbeats 4000000 in
theorem high_any (A : Option Addr) (l : List (Int × Int)) (c : Nat) (h0 : 0 < l.length) (hm : l.length ≤ 1000000) (hc : l.length ≤ c) (hcm : c ≤ maxLen) (hl1 : MayL l) (n d : Int) (hn : Fit n d) (w : World) (hl : LiesO w A l) :
    Calls Tryz.prog 47 #[.slice A l.length c, .agg #[.int .i64 n, .int .i64 d]] w (NumEnd (highR l n d) w) := by
  have V : ∀ W, W = (w.alloc (.cells #[.int .i64 n, .int .i64 d] 25)).alloc (.cells #[.int .i64 0, .int .i64 0] 66) → Calls Tryz.prog 86 #[.slice A l.length c, .func (Fn.func 87) #[] #[.pointer (some ⟨w.heap.size, 0, none⟩)]] W (NumEnd (highR l n d) W) := fun W hW => by
    subst hW
    exact leastLine_any _ _ entersHigh1 _ A l c h0 hm hc hcm _ (hl.below (by (repeat' (first | (with_reducible exact Below.refl _ _) | (with_reducible assumption) | (with_reducible apply Below.setCell) | (with_reducible apply Below.alloc) | (with_reducible apply Below.drew) | (with_reducible apply below_drewN) | (with_reducible refine Below.trans ?_ (Below.mono (by assumption) ?_)) | omega | (simp; done) | (simp; omega))))) (high1_step l hl1 n d hn w.heap.size _ ((HasRat.new w n d _).step (by (repeat' (first | (with_reducible exact Below.refl _ _) | (with_reducible assumption) | (with_reducible apply Below.setCell) | (with_reducible apply Below.alloc) | (with_reducible apply Below.drew) | (with_reducible apply below_drewN) | (with_reducible refine Below.trans ?_ (Below.mono (by assumption) ?_)) | omega | (simp; done) | (simp; omega))))))
  have CV := hidd (V _ rfl)
  have hmf : ∀ (fn : Fn) (first cap : Array Value) (w : World), (Instr.makeFunc fn first cap).run Tryz.prog w = .ok (.func fn first cap) w := fun _ _ _ _ => rfl
  obtain ⟨m, hm2⟩ : ∃ m, l.length = m := ⟨_, rfl⟩
  rw [hm2] at CV ⊢
  clear V h0 hm hc hcm hl1 hn hl hm2
  unfold NumEnd at CV ⊢
  go_enter Tryz.func47, Tryz.ntmps47
  go_wp2_with fail
  refine (CV.out).mono ?_
  rintro E w1 (⟨N, D, rfl, hN, hNr, hb1⟩ | ⟨k, rfl, hk, hk0, hb1⟩)
  case inr =>
    have HB1 := hidd (Below.trans (show Below w.heap.size w ((w.alloc (.cells #[.int .i64 n, .int .i64 d] 25)).alloc (.cells #[.int .i64 0, .int .i64 0] 66)) by (repeat' (first | (with_reducible exact Below.refl _ _) | (with_reducible assumption) | (with_reducible apply Below.setCell) | (with_reducible apply Below.alloc) | (with_reducible apply Below.drew) | (with_reducible apply below_drewN) | (with_reducible refine Below.trans ?_ (Below.mono (by assumption) ?_)) | omega | (simp; done) | (simp; omega)))) (hb1.mono (by simp; omega)))
    go_wp2_with fail
    exact ⟨rfl, .inr ⟨k, rfl, hk, hk0, HB1.out⟩⟩
  have HB1 := hidd (Below.trans (show Below w.heap.size w ((w.alloc (.cells #[.int .i64 n, .int .i64 d] 25)).alloc (.cells #[.int .i64 0, .int .i64 0] 66)) by (repeat' (first | (with_reducible exact Below.refl _ _) | (with_reducible assumption) | (with_reducible apply Below.setCell) | (with_reducible apply Below.alloc) | (with_reducible apply Below.drew) | (with_reducible apply below_drewN) | (with_reducible refine Below.trans ?_ (Below.mono (by assumption) ?_)) | omega | (simp; done) | (simp; omega)))) (hb1.mono (by simp; omega)))
  obtain ⟨g5, g0, g1, g2, g3⟩ := (GBox.new (w := w.alloc (.cells #[.int .i64 n, .int .i64 d] 25)) (b := w.heap.size + 1) (by simp) 66 0 0).step hb1
  have hs := HB1.out.size
  clear hb1
  go_wp2_with fail
  exact bodyPost_ret (v := .agg #[.int .i64 N, .int .i64 D]) (by simp [results, Tryz.results47, go_sem, *]) rfl (.inl ⟨N, D, rfl, hN, hNr, by have q := HB1.out; (repeat' (first | (with_reducible exact Below.refl _ _) | (with_reducible assumption) | (with_reducible apply Below.setCell) | (with_reducible apply Below.alloc) | (with_reducible apply Below.drew) | (with_reducible apply below_drewN) | (with_reducible refine Below.trans ?_ (Below.mono (by assumption) ?_)) | omega | (simp; done) | (simp; omega)))⟩)
/-- is a line no steeper than a rate. -/
def flatB (rn rd : Int) (x : Int × Int) : Bool := decide (x.2 * rd ≤ rn)
set_option maxRecDepth 100000 in
set_option maxHeartbeats 4000000 in
theorem bend1_any (b r rn rd : Int) (hr : 0 ≤ r ∧ r ≤ 1000000000) (hn : Fit rn rd) (q : Nat) (W : World) (hq : HasRat W q rn rd) :
    Calls Tryz.prog 74 #[.agg #[.int .i64 b, .int .i64 r], .pointer (some ⟨q, 0, none⟩)] W fun E w' => E = .returned (.bool (flatB rn rd (b, r))) ∧ Below W.heap.size W w' := by
  have ca := hidd (fun W' => num_isAbove r 1 rn rd (fit_whole (by omega) (by omega)) hn W')
  have cw := hidd (fun W' => whole_any r W')
  rw [ord_above, Int.mul_one] at ca
  have e1 : flatB rn rd (b, r) = !(decide (rn < r * rd)) := by
    unfold flatB
    by_cases h : r * rd ≤ rn
    · simp [h]
    · simp [h]; omega
  rw [e1]
  obtain ⟨Z, hZ⟩ : ∃ Z, decide (rn < r * rd) = Z := ⟨_, rfl⟩
  rw [hZ] at ca ⊢
  obtain ⟨y0, y1, y2⟩ := hq
  have hne : ¬ q = W.heap.size := by omega
  have hfd := field_num
  have q0 : (W.alloc (.cells #[.int .i64 b, .int .i64 r] 68)).cell? ⟨W.heap.size, 0, none⟩ = some (.int .i64 b) := by simp [go_sem]
  have q1 : (W.alloc (.cells #[.int .i64 b, .int .i64 r] 68)).cell? ⟨W.heap.size, 1, none⟩ = some (.int .i64 r) := by simp [go_sem]
  have q2 : (W.alloc (.cells #[.int .i64 b, .int .i64 r] 68)).cell? ⟨q, 0, none⟩ = some (.int .i64 rn) := by simp [go_sem, *]
  have q3 : (W.alloc (.cells #[.int .i64 b, .int .i64 r] 68)).cell? ⟨q, 1, none⟩ = some (.int .i64 rd) := by simp [go_sem, *]
  have d0 : W.heap.size < (W.alloc (.cells #[.int .i64 b, .int .i64 r] 68)).heap.size := by simp
  have d1 : W.heap.size < (W.alloc (.cells #[.int .i64 b, .int .i64 r] 68)).heap.size := by simp
  have d2 : q < (W.alloc (.cells #[.int .i64 b, .int .i64 r] 68)).heap.size := by simp; omega
  have d3 : q < (W.alloc (.cells #[.int .i64 b, .int .i64 r] 68)).heap.size := by simp; omega
  have hBw : Below W.heap.size W (W.alloc (.cells #[.int .i64 b, .int .i64 r] 68)) := by (repeat' (first | (with_reducible exact Below.refl _ _) | (with_reducible assumption) | (with_reducible apply Below.setCell) | (with_reducible apply Below.alloc) | (with_reducible apply Below.drew) | (with_reducible apply below_drewN) | (with_reducible refine Below.trans ?_ (Below.mono (by assumption) ?_)) | omega | (simp; done) | (simp; omega)))
  have KEEP := hidd (fun (w' : World) (hb : Below (W.alloc (.cells #[.int .i64 b, .int .i64 r] 68)).heap.size (W.alloc (.cells #[.int .i64 b, .int .i64 r] 68)) w') => (show w'.cell? ⟨W.heap.size, 0, none⟩ = some (.int .i64 b) ∧ w'.cell? ⟨W.heap.size, 1, none⟩ = some (.int .i64 r) ∧ w'.cell? ⟨q, 0, none⟩ = some (.int .i64 rn) ∧ w'.cell? ⟨q, 1, none⟩ = some (.int .i64 rd) from ⟨(hb.cell (p := ⟨W.heap.size, 0, none⟩) d0).trans q0, (hb.cell (p := ⟨W.heap.size, 1, none⟩) d1).trans q1, (hb.cell (p := ⟨q, 0, none⟩) d2).trans q2, (hb.cell (p := ⟨q, 1, none⟩) d3).trans q3⟩))
  have OUT := hidd (fun (w' : World) (hb : Below (W.alloc (.cells #[.int .i64 b, .int .i64 r] 68)).heap.size (W.alloc (.cells #[.int .i64 b, .int .i64 r] 68)) w') => (show True ∧ True ∧ True ∧ Below W.heap.size W w' from ⟨trivial, trivial, trivial, below_step hBw hb⟩))
  clear hr hn e1 hZ d0 d1 d2 d3 hBw y0 y1
  go_enter Tryz.func74, Tryz.ntmps74
  go_wp2_with fail
  go_region_held (fun w' => w'.cell? ⟨W.heap.size, 0, none⟩ = some (.int .i64 b) ∧ w'.cell? ⟨W.heap.size, 1, none⟩ = some (.int .i64 r) ∧ w'.cell? ⟨q, 0, none⟩ = some (.int .i64 rn) ∧ w'.cell? ⟨q, 1, none⟩ = some (.int .i64 rd))
    ((first | exact KEEP.out _ cum2 | exact KEEP.out _ cum1 | exact KEEP.out _ (Below.refl _ _) | exact KEEP.out _ (Below.drew (Below.refl _ _)) | (obtain ⟨j0, j1, j2, j3⟩ := KEEP.out _ cum2; refine ⟨?_, ?_, ?_, ?_⟩ <;> simp [go_sem, *]; done) | go_keep))
    ((first
      | (go_at_call 52; refine (cw.out _).mono ?_; rintro E1 v1 ⟨rfl, l1⟩; have cum1 : Below (W.alloc (.cells #[.int .i64 b, .int .i64 r] 68)).heap.size (W.alloc (.cells #[.int .i64 b, .int .i64 r] 68)) v1 := (by first | exact below_step (Below.drew (Below.refl _ _)) l1 | exact below_step (Below.refl _ _) l1))
      | (go_at_call 75; refine (ca.out _).mono ?_; rintro E2 v2 ⟨rfl, l2⟩; have cum2 : Below (W.alloc (.cells #[.int .i64 b, .int .i64 r] 68)).heap.size (W.alloc (.cells #[.int .i64 b, .int .i64 r] 68)) v2 := (by exact below_step cum1 l2))))
  all_goals go_wp2_with fail
  all_goals go_ret
  all_goals exact ⟨by first | rfl | simp, by have q := (OUT.out _ cum2).2.2.2; (repeat' (first | (with_reducible exact Below.refl _ _) | (with_reducible assumption) | (with_reducible apply Below.setCell) | (with_reducible apply Below.alloc) | (with_reducible apply Below.drew) | (with_reducible apply below_drewN) | (with_reducible refine Below.trans ?_ (Below.mono (by assumption) ?_)) | omega | (simp; done) | (simp; omega)))⟩
/-- the place of the first line that is no steeper. -/
def flatAt (rn rd : Int) (l : List (Int × Int)) : Nat := l.findIdx (flatB rn rd)
set_option maxHeartbeats 4000000 in
theorem idxFlat_any (A : Option Addr) (l : List (Int × Int)) (c : Nat) (hm : l.length ≤ 1000000) (hl1 : MayL l) (rn rd : Int) (hn : Fit rn rd) (q : Nat) (w : World) (hq : HasRat w q rn rd) (hl : LiesO w A l) :
    Calls Tryz.prog 76 #[.slice A l.length c, .func (.func 74) #[] #[.pointer (some ⟨q, 0, none⟩)]] w fun E w' => E = .returned (.int .i64 (if flatAt rn rd l < l.length then (flatAt rn rd l : Int) else -1)) ∧ Below w.heap.size w w' := by
  have HL := hidd hl
  have he := entersBend1
  have CF := hidd (fun i (hi : i < l.length) W (hW : Below w.heap.size w W) => (by
    have hb := hl1 _ (List.getElem_mem hi)
    exact bend1_any (l[i]).1 (l[i]).2 rn rd hb.2 hn q W (hq.step hW) : Calls Tryz.prog 74 #[.agg #[.int .i64 (l[i]).1, .int .i64 (l[i]).2], .pointer (some ⟨q, 0, none⟩)] W fun E w' => E = .returned (.bool (flatB rn rd ((l[i]).1, (l[i]).2))) ∧ Below W.heap.size W w'))
  obtain ⟨n, hn2⟩ : ∃ n, l.length = n := ⟨_, rfl⟩
  have HN := hidd hn2
  have HIF := hidd (fun i (hi : i < l.length) (h1 : ∀ j (hj : j < l.length), j < i → flatB rn rd l[j] = false) (h2 : flatB rn rd l[i] = true) => (show flatAt rn rd l = i from by
    unfold flatAt
    rw [List.findIdx_eq hi]
    exact ⟨h2, fun j hj => h1 j (by omega) hj⟩))
  have HNO := hidd (fun (h1 : ∀ j (hj : j < l.length), flatB rn rd l[j] = false) => (show ¬ flatAt rn rd l < l.length from fun h => by
    have h' : l.findIdx (flatB rn rd) < l.length := h
    have := List.findIdx_getElem (w := h')
    exact absurd this (by rw [h1 _ h']; decide)))
  obtain ⟨FA, hFA⟩ : ∃ FA, flatAt rn rd l = FA := ⟨_, rfl⟩
  rw [hn2]
  rw [hFA] at HIF HNO ⊢
  rw [hn2] at hm
  obtain ⟨V, hV⟩ : ∃ V : Int, (if FA < n then (FA : Int) else -1) = V := ⟨_, rfl⟩
  rw [hV]
  have HV := hidd hV
  clear hl hl1 hn hq hn2 hFA hV
  go_enter Tryz.func76, Tryz.ntmps76
  go_wp2_with fail
  go_loopg [8] (n + 2) (fun g s8 wr => ∃ i : Nat, i ≤ n ∧ i + g = n + 2 ∧ s8 = .int .i64 (i : Int) ∧ (∀ j (hj : j < l.length), j < i → flatB rn rd l[j] = false) ∧ Below w.heap.size w wr)
  case atStart => exact ⟨0, by omega, by omega, by first | rfl | simp, fun j _ h => absurd h (by omega), Below.refl _ _⟩
  case round =>
    obtain ⟨i, hi1, hg, rfl, hs, hB⟩ := hrel
    have HG := hidd hg
    have HS := hidd hs
    have HB := hidd hB
    clear hg hs hB
    by_cases hin : i < n
    · have hin2 : (i : Int) < (n : Int) := by omega
      have hi0 : (0 : Int) ≤ (i : Int) := by omega
      have hil : i < l.length := by rw [HN.out]; exact hin
      obtain ⟨ad, rfl, hab, hcells⟩ := (HL.out.below HB.out) (by omega)
      obtain ⟨x0, x1⟩ := hcells i hil
      have cf := hidd (fun W hW => CF.out i hil W hW)
      have HI := hidd (fun h => HIF.out i hil HS.out h)
      have HST := hidd (fun (h : flatB rn rd l[i] = false) j (hj : j < l.length) (hk : j < i + 1) => (show flatB rn rd l[j] = false from by
        by_cases e : j = i
        · subst e; exact h
        · exact HS.out j hj (by omega)))
      obtain ⟨x, hx⟩ : ∃ x, l[i] = x := ⟨_, rfl⟩
      rw [hx] at x0 x1 cf HI HST
      obtain ⟨b, r⟩ := x
      dsimp only at x0 x1 cf
      obtain ⟨Z, hZ⟩ : ∃ Z, flatB rn rd (b, r) = Z := ⟨_, rfl⟩
      rw [hZ] at cf HI HST
      clear hcells hx hZ
      cases Z
      · have HSTT := hidd (HST.out rfl)
        go_wp2_with fail
        refine (cf.out _ (by have := HB.out; (repeat' (first | (with_reducible exact Below.refl _ _) | (with_reducible assumption) | (with_reducible apply Below.setCell) | (with_reducible apply Below.alloc) | (with_reducible apply Below.drew) | (with_reducible apply below_drewN) | (with_reducible refine Below.trans ?_ (Below.mono (by assumption) ?_)) | omega | (simp; done) | (simp; omega))))).mono ?_
        rintro e w2 ⟨rfl, hb2⟩
        have HB2 := hidd (below_step HB.out hb2)
        clear hb2
        go_wp2_with fail
        have hg := HG.out
        go_roundg (gk - 1)
        case measure => omega
        case rel => exact ⟨i + 1, by omega, by omega, by go_num, HSTT.out, HB2.out⟩
      · have hfa := HI.out rfl
        have HFA := hidd hfa
        clear hfa
        go_wp2_with fail
        refine (cf.out _ (by have := HB.out; (repeat' (first | (with_reducible exact Below.refl _ _) | (with_reducible assumption) | (with_reducible apply Below.setCell) | (with_reducible apply Below.alloc) | (with_reducible apply Below.drew) | (with_reducible apply below_drewN) | (with_reducible refine Below.trans ?_ (Below.mono (by assumption) ?_)) | omega | (simp; done) | (simp; omega))))).mono ?_
        rintro e w2 ⟨rfl, hb2⟩
        have HB2 := hidd (below_step HB.out hb2)
        clear hb2
        go_wp2_with fail
        go_ret
        have hv := HV.out
        rw [HFA.out, if_pos hin] at hv
        exact ⟨by first | rw [← hv]; rfl | rw [← hv]; simp, HB2.out⟩
    · obtain rfl : i = n := by omega
      have HNN := hidd (HNO.out (fun j hj => HS.out j hj (by have := HN.out; omega)))
      have hin2 : ¬ (i : Int) < (i : Int) := by omega
      go_wp2_with fail
      go_ret
      have hv := HV.out
      rw [if_neg (by have := HNN.out; have := HN.out; omega)] at hv
      exact ⟨by first | rw [← hv]; rfl | rw [← hv]; simp, HB.out⟩
end Go.Proofs.YtokcalmmmfakcaaGreat
