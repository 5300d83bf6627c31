/- Objects: their bytes, as the program lays them. -/
import Derived.Test.YtappmacnoopmkaaGreatObC
namespace Go.Proofs.YtappmacnoopmkaaGreat
set_option linter.unusedVariables false
open Go.RowKit

theorem size_any (a b : Int) (A : Option Addr) (n c : Nat) (hn : n ≤ 140737488355328) (w : World) : Calls Tryz.prog 92 #[.agg #[.int .i64 a, .int .i64 b, .slice A n c]] w fun e w' => e = .returned (.int .i64 (4 + 4 * (n : Int))) ∧ Below w.heap.size w w' := by
  have e1 : IntKind.i64.wrap (4 * (n : Int)) = 4 * (n : Int) := IntWalk.i64_in _ (by omega)
  have e2 : IntKind.i64.wrap (4 + 4 * (n : Int)) = 4 + 4 * (n : Int) := IntWalk.i64_in _ (by omega)
  clear hn
  go_enter Tryz.func92, Tryz.ntmps92
  go_wp2_with fail
  go_ret
  exact ⟨by first | rfl | simp [*], by (repeat' (first | (with_reducible exact Below.refl _ _) | (with_reducible assumption) | (with_reducible apply Below.setCell) | (with_reducible apply Below.alloc) | (with_reducible apply Below.drew) | (with_reducible apply below_drewN) | (with_reducible refine Below.trans ?_ (Below.mono (by assumption) ?_)) | omega | (simp; done) | (simp; omega)))⟩
theorem lie_new (w : World) (ns : List Int) (t : TypeId) (vs : Array Value) (hvs : vs = (ns.map (fun n => Value.int .i64 n)).toArray) (p : Nat → Prop) (hp : p w.heap.size) : LieQ wdV 1 (w.alloc (.cells vs t)) p (some ⟨w.heap.size, 0, none⟩) ns := fun _ => by
  subst hvs
  refine ⟨_, rfl, hp, fun i x hx j v hv => ?_⟩
  match j, hv with
  | 0, hv =>
    simp [wdV] at hv
    subst hv
    have hi : i < ns.length := (List.getElem?_eq_some_iff.1 hx).1
    have := World.news_of_block (cs := (ns.map (fun n => Value.int .i64 n)).toArray) (t := t) (fr := (0, 0)) (heap_alloc_new w _) i (.int .i64 x) (by simp [hx])
    simpa using this
  | j + 1, hv => simp [wdV] at hv
def rawO (o : Ob) : List Int := layB 2 [4 + 4 * (o.ws.length : Int)] ++ layB 1 [o.c, o.t] ++ layB 4 o.ws
def rawAll (l : List Ob) : List Int := l.flatMap rawO
theorem rawO_len (o : Ob) : (rawO o).length = 4 + 4 * o.ws.length := by
  unfold rawO
  rw [List.length_append, List.length_append, layB_len, layB_len, layB_len]; simp; omega
theorem rawAll_take {l : List Ob} {i : Nat} (h : i < l.length) : rawAll (l.take (i + 1)) = rawAll (l.take i) ++ rawO l[i] := by
  unfold rawAll
  rw [List.take_add_one, List.getElem?_eq_getElem h, List.flatMap_append]; simp
def allR (l : List Ob) : Prop := ∀ o ∈ l, rightB o.c o.t o.ws = true
theorem allR.le {l : List Ob} (h : allR l) : ∀ o ∈ l, o.ws.length ≤ 64 := fun o ho => by
  have := h o ho
  simp only [rightB, Bool.and_eq_true, inB_iff] at this
  omega
theorem allR.cls {l : List Ob} (h : allR l) : ∀ o ∈ l, (0 ≤ o.c ∧ o.c ≤ 255) ∧ (0 ≤ o.t ∧ o.t ≤ 255) ∧ ∀ x ∈ o.ws, 0 ≤ x ∧ x ≤ 4294967295 := fun o ho => by
  have := h o ho
  simp only [rightB, Bool.and_eq_true, inB_iff, List.all_eq_true] at this
  exact ⟨this.1, this.2.1, fun x hx => wordB_iff.1 (this.2.2.2 x hx)⟩
theorem rawAll_len : ∀ {l : List Ob}, (∀ o ∈ l, o.ws.length ≤ 64) → (rawAll l).length ≤ l.length * 260
  | [], _ => by simp [rawAll]
  | o :: l, h => by
    have h1 := rawAll_len (l := l) (fun x hx => h x (by simp [hx]))
    have h2 := h o (by simp)
    have h3 : (rawAll (o :: l)).length = (rawO o).length + (rawAll l).length := by simp [rawAll]
    rw [h3, rawO_len, List.length_cons, Nat.add_mul]; omega
/-- what the step of Raw makes: the bytes, or why there are none. -/
def RawEnd (l : List Ob) (base : Nat) (w : World) (e : Ending) (w' : World) : Prop :=
  Below w.heap.size w w' ∧ ((allR l ∧ l.length ≤ 40 ∧ ∃ v, e = .returned v ∧ OwnL byV 1 w' base 5 v (rawAll l)) ∨ (¬ allR l ∧ e = errPanic 2) ∨ (allR l ∧ ¬ l.length ≤ 40 ∧ e = errPanic 3))
set_option maxRecDepth 100000 in
set_option maxHeartbeats 8000000 in
theorem Raw1_any (A : Option Addr) (l : List Ob) (c pb : Nat) (hm : l.length ≤ 9223372036854775807) (hw : ∀ o ∈ l, o.ws.length ≤ 9223372036854775807) (w : World) (hc : w.cell? ⟨pb, 0, none⟩ = some (.slice A l.length c)) (hpb : pb < w.heap.size) (hl : Obs w (· < w.heap.size) A l) :
    Calls Tryz.prog 87 #[.pointer (some ⟨pb, 0, none⟩)] w (RawEnd l w.heap.size w) := by
  have HL := hidd hl
  have co := hidd (conO_any A l c hm hw w hl)
  have HC := hidd (fun W (h : Below w.heap.size w W) => (h.cell (p := ⟨pb, 0, none⟩) hpb).trans hc)
  obtain ⟨P, hP⟩ : ∃ P : Prop, allR l = P := ⟨_, rfl⟩
  have HP := hidd hP
  have e2 : (¬ ∀ o ∈ l, rightB o.c o.t o.ws = true) = (¬ P) := by rw [← hP]; rfl
  rw [e2] at co
  unfold RawEnd
  rw [hP]
  clear hl hw e2 hP
  go_enter Tryz.func87, Tryz.ntmps87
  go_wp2_with fail
  refine co.out.mono ?_
  rintro e w1 ⟨R, rfl, hR, hb1⟩
  have HR := hidd hR
  have HB1 := hidd hb1
  clear hR hb1 hc
  cases R
  rotate_left
  · have hnp : ¬ P := HR.out.1 rfl
    have HNP := hidd hnp
    clear hnp
    go_wp2_with fail
    refine (need_no _ _).mono ?_
    rintro e w2 ⟨rfl, rfl⟩
    go_wp2_with fail
    exact ⟨rfl, HB1.out, .inr (.inl ⟨HNP.out, rfl⟩)⟩
  have hp : P := Classical.not_not.1 (fun h => absurd (HR.out.2 h) Bool.false_ne_true)
  have HPP := hidd hp
  have hc1 := HC.out _ HB1.out
  clear hp
  by_cases h40 : l.length ≤ 40
  rotate_left
  · have h40' : decide ((l.length : Int) ≤ 40) = false := decide_eq_false (by omega)
    have h40n : ¬ ((l.length : Int) ≤ 40) := by omega
    have H40 := hidd h40
    clear h40
    go_wp2_with fail
    refine (need_yes _ _).mono ?_
    rintro e w2 ⟨rfl, rfl⟩
    go_wp2_with fail
    refine (need_no _ _).mono ?_
    rintro e w2 ⟨rfl, rfl⟩
    go_wp2_with fail
    exact ⟨rfl, HB1.out, .inr (.inr ⟨HPP.out, H40.out, rfl⟩)⟩
  have hall : allR l := by rw [HP.out]; exact HPP.out
  have HALL := hidd hall
  clear hall
  have h40' : (l.length : Int) ≤ 40 := by omega
  go_wp2_with fail
  refine (need_yes _ _).mono ?_
  rintro e w2 ⟨rfl, rfl⟩
  go_wp2_with fail
  refine (need_yes _ _).mono ?_
  rintro e w2 ⟨rfl, rfl⟩
  go_wp2_with fail
  go_loopg [2, 15] (l.length + 1) (fun g s2 s15 wr => ∃ i : Nat, i ≤ l.length ∧ i + g = l.length + 1 ∧ s15 = .int .i64 (i : Int) ∧ OwnL byV 1 wr w.heap.size 5 s2 (rawAll (l.take i)) ∧ Below w.heap.size w wr)
  case atStart => exact ⟨0, by omega, by omega, by first | rfl | simp, by simpa [rawAll] using OwnL.nil _ _ _, HB1.out⟩
  case round =>
    obtain ⟨i, hi, hg, rfl, hO, hB⟩ := hrel
    have HG := hidd hg
    have HB := hidd hB
    obtain ⟨A1, c1, rfl, _, _, _⟩ := OwnL.lie hO byV_len
    have HO := hidd hO
    clear hg hO hB
    by_cases hin : i < l.length
    · have hin2 : (i : Int) < (l.length : Int) := by omega
      have hOb := HL.out.to (p' := (· < w.heap.size)) (W' := wr) (fun k hk => ⟨hk, HB.out.block k hk⟩)
      obtain ⟨ad, rfl, ha, x0, x1, x2⟩ := hOb.at_ i hin
      obtain ⟨Ai, ki, hv, hlw⟩ := hOb.2 l[i] (List.getElem_mem hin)
      rw [hv] at x2
      rw [add_plain3 ad i 0] at x1
      rw [add_plain3 ad i 1] at x2
      obtain ⟨hcl, hty, hwd⟩ := HALL.out.cls l[i] (List.getElem_mem hin)
      have hle := HALL.out.le l[i] (List.getElem_mem hin)
      have HT := hidd (rawAll_take hin)
      have hlen : (rawAll (l.take i)).length ≤ 10400 := by
        have := rawAll_len (l := l.take i) (fun o ho => HALL.out.le o (List.mem_of_mem_take ho))
        rw [List.length_take, Nat.min_eq_left (by omega)] at this
        omega
      generalize l[i] = ob at *
      obtain ⟨a, b, v, ws⟩ := ob
      dsimp only at *
      subst hv
      generalize hM : rawAll (l.take i) = M at *
      have HM := hidd hM
      have HLW := hidd hlw
      have HWD := hidd hwd
      have HHA := hidd ha
      clear hM hlw hwd hOb ha
      have cs := hidd (fun W => size_any a b Ai ws.length ki (by omega) W)
      have hwz := HB.out.size
      go_wp2_with fail
      refine (cs.out _).mono ?_
      rintro e w3 ⟨rfl, hb3⟩
      have HB3 := hidd (below_step (below_new HB.out (.cells #[.int .i64 a, .int .i64 b, .slice Ai ws.length ki] 42)) hb3)
      have HO3 := hidd ((HO.out.alloc (.cells #[.int .i64 a, .int .i64 b, .slice Ai ws.length ki] 42)).below hb3)
      have hown := (OwnL.lt HO.out : ∀ k, (Value.slice A1 M.length c1).ownBlock = some k → _)
      have hkO : ∀ k, wr.heap.size ≤ k → (Value.slice A1 M.length c1).ownBlock ≠ some k := fun k hk e => by have := (hown k e).2; omega
      have hz3 : wr.heap.size < w3.heap.size := by have := hb3.size; simp at this; omega
      obtain ⟨bc3, bf3⟩ := bcell hb3
      have y0 : w3.cell? ⟨wr.heap.size, 0, none⟩ = some (.int .i64 a) := by rw [bc3 _ _ (by simp)]; simp [go_sem]
      have y1 : w3.cell? ⟨wr.heap.size, 1, none⟩ = some (.int .i64 b) := by rw [bc3 _ _ (by simp)]; simp [go_sem]
      have y2 : w3.cell? ⟨wr.heap.size, 2, none⟩ = some (.slice Ai ws.length ki) := by rw [bc3 _ _ (by simp)]; simp [go_sem]
      have cl1 := hidd (fun W h1 h2 h3 => lay_any 2 (.inr (.inl rfl)) w.heap.size (.slice A1 M.length c1) M (some ⟨w3.heap.size, 0, none⟩) [4 + 4 * (ws.length : Int)] 1 (by simp) (by simp; omega) (by omega) W h1 h2 h3)
      have cl2 := hidd (fun W v q h1 h2 h3 => lay_any 1 (.inl rfl) w.heap.size v (M ++ layB 2 [4 + 4 * (ws.length : Int)]) (some ⟨q, 0, none⟩) [a, b] 2 (by simp) (by simp; omega) (by simp [layB_len]; omega) W h1 h2 h3)
      have cl3 := hidd (fun W v h1 h2 h3 => lay_any 4 (.inr (.inr rfl)) w.heap.size v (M ++ layB 2 [4 + 4 * (ws.length : Int)] ++ layB 1 [a, b]) Ai ws ki hle (fun n hn => by have := HWD.out n hn; omega) (by simp [layB_len]; omega) W h1 h2 h3)
      rw [show ((2 : Nat) : Int) = 2 from rfl, show [4 + 4 * (ws.length : Int)].length = 1 from rfl] at cl1
      rw [show ((1 : Nat) : Int) = 1 from rfl, show [a, b].length = 2 from rfl] at cl2
      rw [show ((4 : Nat) : Int) = 4 from rfl] at cl3
      have HHO := hidd hkO
      clear hb3 bc3 bf3 hown hkO x0 x1 x2 hcl hty
      have hw3 := HB3.out.size
      go_wp2_with fail
      refine (cl1.out _ (HO3.out.alloc _) (by simp; omega) (lie_new _ _ _ _ rfl _ ⟨by simp, HHO.out _ (by omega)⟩)).mono ?_
      rintro e w4 ⟨v4, rfl, hO4, hB4, hk4⟩
      have HO4 := hidd hO4
      have HB4 := hidd ((HB3.out.alloc (Nat.le_trans hw3 (Nat.le_refl _)) (.cells #[.int .i64 (4 + 4 * (ws.length : Int))] 2)).trans hB4)
      have hz4 : w3.heap.size < w4.heap.size := by have := hB4.size; simp at this; omega
      have hb4 : w4.heap[wr.heap.size]? = w3.heap[wr.heap.size]? := (hk4 _ (by simp; omega) (HHO.out _ (Nat.le_refl _))).2.trans (Below.heap_alloc _ _ _ (by omega))
      have hn4 := (hk4 wr.heap.size (by simp; omega) (HHO.out _ (Nat.le_refl _))).1
      have t0 := (World.cell?_of_block (w := w3) (w' := w4) (a := ⟨wr.heap.size, 0, none⟩) hb4).trans y0
      have t1 := (World.cell?_of_block (w := w3) (w' := w4) (a := ⟨wr.heap.size, 1, none⟩) hb4).trans y1
      have t2 := (World.cell?_of_block (w := w3) (w' := w4) (a := ⟨wr.heap.size, 2, none⟩) hb4).trans y2
      have hown4 := OwnL.lt hO4
      have hw4 := HB4.out.size
      have HN4 := hidd hn4
      have HW4 := hidd hown4
      clear hO4 hB4 hk4 hb4 y0 y1 y2 hn4 hown4
      go_wp2_with fail
      refine (cl2.out _ v4 w4.heap.size (HO4.out.alloc _) (by simp; omega) (lie_new _ _ _ _ rfl _ ⟨by simp, fun e => by have := (HW4.out _ e).2; omega⟩)).mono ?_
      rintro e w5 ⟨v5, rfl, hO5, hB5, hk5⟩
      have HO5 := hidd hO5
      have HB5 := hidd ((HB4.out.alloc hw4 (.cells #[.int .i64 a, .int .i64 b] 2)).trans hB5)
      have hz5 : w4.heap.size < w5.heap.size := by have := hB5.size; simp at this; omega
      have hb5 : w5.heap[wr.heap.size]? = w4.heap[wr.heap.size]? := (hk5 _ (by simp; omega) HN4.out).2.trans (Below.heap_alloc _ _ _ (by omega))
      have s2 := (World.cell?_of_block (w := w4) (w' := w5) (a := ⟨wr.heap.size, 2, none⟩) hb5).trans t2
      have hown5 := OwnL.lt hO5
      have hw5 := HB5.out.size
      have HW5 := hidd hown5
      have HLW5 := hidd (HLW.out.to (w' := w5) (p' := fun b => b < w5.heap.size ∧ v5.ownBlock ≠ some b) (fun k hk => ⟨⟨by omega, fun e => by have := (HW5.out _ e).1; omega⟩, (HB5.out.block k hk).trans (HB.out.block k hk).symm⟩))
      clear hO5 hB5 hk5 hb5 t0 t1 t2 hown5
      go_wp2_with fail
      refine (cl3.out _ v5 HO5.out (by omega) HLW5.out).mono ?_
      rintro e w6 ⟨v6, rfl, hO6, hB6, -⟩
      have HB6 := hidd (HB5.out.trans hB6)
      have HO6 := hidd (show OwnL byV 1 w6 w.heap.size 5 v6 (rawAll (l.take (i + 1))) by
        rw [HT.out]
        unfold rawO
        rw [← List.append_assoc, ← List.append_assoc]
        exact hO6)
      have e1 : IntKind.i64.wrap ((i : Int) + 1) = (i : Int) + 1 := IntWalk.i64_in _ (by omega)
      clear hO6 hB6 s2
      go_wp2_with fail
      have hg := HG.out
      go_roundg (gk - 1)
      case measure => omega
      case rel => exact ⟨i + 1, by omega, by omega, by go_num, HO6.out, HB6.out⟩
    · obtain rfl : i = l.length := by omega
      have hO1 := HO.out
      rw [List.take_length] at hO1
      have HO2 := hidd hO1
      clear hO1 HO
      rw [List.take_length]
      go_wp2_with fail
      go_ret
      exact ⟨HB.out, .inl ⟨HPP.out, by omega, _, rfl, HO2.out⟩⟩
end Go.Proofs.YtappmacnoopmkaaGreat
