/- Curves: a curve so many ticks later. -/
import Derived.Test.YtpgaklfgbioocaaCvS
namespace Go.Proofs.Ytpgaklfgbioocaa
set_option linter.unusedVariables false
open Go.RowKit Go.Proofs.Ytpgaklfgbioocaa.RowK

/-- how high line i is. -/
def hgt (L : List (Int × Int)) (t : Int) (i : Nat) : Int := SM.av L i + SM.sv L i * t
/-- is line i still there so many ticks later. -/
def laterB (L : List (Int × Int)) (t : Int) (i : Nat) : Bool := decide (i + 1 = L.length) || decide (hgt L t i < hgt L t (i + 1))
def kp (L : List (Int × Int)) (t : Int) : Nat → List (Int × Int)
  | 0 => []
  | k + 1 => if laterB L t k then kp L t k ++ [(SM.av L k, SM.sv L k)] else kp L t k
def laterL (L : List (Int × Int)) (t : Int) : List (Int × Int) := (kp L t L.length).map fun x => (x.1 + x.2 * t, x.2)
set_option maxRecDepth 100000 in
set_option maxHeartbeats 4000000 in
theorem later1_any (b1 b2 : Nat) (A : Option Addr) (L : List (Int × Int)) (c : Nat) (t : Int) (i : Nat) (hi : i < L.length) (hL : L.length ≤ 1000000) (hm : MayAll L) (t0 : 0 ≤ t) (t1 : t ≤ 2147483647) (w : World)
    (h1 : w.cell? ⟨b1, 0, none⟩ = some (.slice A L.length c)) (h2 : w.cell? ⟨b2, 0, none⟩ = some (.int .i64 t)) (hb1 : b1 < w.heap.size) (hb2 : b2 < w.heap.size) (hA : Lie sendV 2 w w.heap.size A L) :
    Calls Try.prog 32 #[.int .i64 i, .pointer (some ⟨b1, 0, none⟩), .pointer (some ⟨b2, 0, none⟩)] w fun e w' => e = .returned (.bool (laterB L t i)) ∧ Below w.heap.size w w' := by
  obtain ⟨m, hm1⟩ : ∃ m, L.length = m + 1 := ⟨L.length - 1, by omega⟩
  have e1 : IntKind.i64.wrap ((m : Int) + 1 - 1) = (m : Int) := by rw [IntWalk.i64_in _ (by omega)]; omega
  have e2 : IntKind.i64.wrap (m : Int) = (m : Int) := IntWalk.i64_in _ (by omega)
  have hh := fun j (hj : j < L.length) W => by
    have h := mayB_iff (hm j hj)
    simp only at h
    exact height_any (SM.av L j) (SM.sv L j) t h.1 h.2.1 h.2.2.1 h.2.2.2 t0 t1 W
  by_cases him : i = m
  · have hv : laterB L t i = true := by unfold laterB; rw [decide_eq_true (by omega : i + 1 = L.length)]; rfl
    rw [hv]
    subst him
    rw [hm1] at h1
    have hl : (((i + 1 : Nat) : Int)) = (i : Int) + 1 := by omega
    clear hh hv hA hm
    go_enter Try.func32, Try.ntmps32
    go_wp2_with fail
    go_quiet (fail)
    go_wp2_with fail
    go_ret
    exact ⟨by simp, by (repeat' (first | (with_reducible exact Below.refl _ _) | (with_reducible assumption) | (with_reducible apply Below.setCell) | (with_reducible apply Below.alloc) | (with_reducible apply Below.drew) | (with_reducible apply below_drewN) | (with_reducible refine Below.trans ?_ (Below.mono (by assumption) ?_)) | omega | (simp; done) | (simp; omega)))⟩
  · obtain ⟨ad, rfl, hab, x0, x1⟩ := hA.send i hi
    obtain ⟨ad', e', _, y0, y1⟩ := hA.send (i + 1) (by omega)
    obtain rfl : ad = ad' := by injection e'
    rw [(av_at hi).1] at x0
    rw [(av_at hi).2] at x1
    rw [(av_at (show i + 1 < L.length by omega)).1] at y0
    rw [(av_at (show i + 1 < L.length by omega)).2] at y1
    have hv : laterB L t i = decide (hgt L t i < hgt L t (i + 1)) := by unfold laterB; rw [decide_eq_false (by omega : ¬ i + 1 = L.length)]; rfl
    rw [hv]
    have c1 := hidd (hh i hi)
    have c2 := hidd (hh (i + 1) (by omega))
    have f1 : SM.av L i + SM.sv L i * t = hgt L t i := rfl
    have f2 : SM.av L (i + 1) + SM.sv L (i + 1) * t = hgt L t (i + 1) := rfl
    rw [f1] at c1
    rw [f2] at c2
    have hab' : (ad.add (i * 2)).block = ad.block := block_of_add _ _
    have hab2 : (ad.add ((i + 1) * 2)).block = ad.block := block_of_add _ _
    have hkp : ∀ w', Below w.heap.size w w' → w'.cell? ⟨b1, 0, none⟩ = some (.slice (some ad) (m + 1 : Nat) c) ∧ w'.cell? ⟨b2, 0, none⟩ = some (.int .i64 t) ∧ w'.cell? (ad.add (i * 2)) = some (.int .i64 (SM.av L i)) ∧ w'.cell? ⟨(ad.add (i * 2)).block, (ad.add (i * 2)).off + 1, none⟩ = some (.int .i64 (SM.sv L i)) ∧ w'.cell? (ad.add ((i + 1) * 2)) = some (.int .i64 (SM.av L (i + 1))) ∧ w'.cell? ⟨(ad.add ((i + 1) * 2)).block, (ad.add ((i + 1) * 2)).off + 1, none⟩ = some (.int .i64 (SM.sv L (i + 1))) := fun w' hb =>
      ⟨(hb.cell (p := ⟨b1, 0, none⟩) hb1).trans (hm1 ▸ h1), (hb.cell (p := ⟨b2, 0, none⟩) hb2).trans h2, (hb.cell (by rw [hab']; omega)).trans x0, (hb.cell (p := ⟨(ad.add (i * 2)).block, _, none⟩) (by show (ad.add (i * 2)).block < _; rw [hab']; omega)).trans x1, (hb.cell (by rw [hab2]; omega)).trans y0, (hb.cell (p := ⟨(ad.add ((i + 1) * 2)).block, _, none⟩) (by show (ad.add ((i + 1) * 2)).block < _; rw [hab2]; omega)).trans y1⟩
    have KEEP := hidd hkp
    have hi0 : (0 : Int) ≤ (i : Int) := by omega
    have hi1 : (i : Int) < (m : Int) + 1 := by omega
    have hi2 : (i : Int) + 1 < (m : Int) + 1 := by omega
    have hi3 : IntKind.i64.wrap ((i : Int) + 1) = (i : Int) + 1 := IntWalk.i64_in _ (by omega)
    have hi4 : (i : Int) < (m : Int) := by omega
    have hi5 : (0 : Int) ≤ (i : Int) + 1 := by omega
    have hi6 : ((i : Int) + 1).toNat = i + 1 := by omega
    have hne : ((i : Int) == (m : Int)) = false := beq_eq_false_iff_ne.2 (by omega)
    clear hkp hh hv f1 f2 e' hab hab' hab2 x0 x1 y0 y1 h1 h2 hA hm him hb1 hb2
    generalize hgt L t i = H1 at *
    generalize hgt L t (i + 1) = H2 at *
    generalize SM.av L i = a0 at *
    generalize SM.sv L i = a1 at *
    generalize SM.av L (i + 1) = b0 at *
    generalize SM.sv L (i + 1) = b1' at *
    clear hi hm1 hL
    go_enter Try.func32, Try.ntmps32
    go_wp2_with fail
    go_region_held3 (fun w' => w'.cell? ⟨b1, 0, none⟩ = some (.slice (some ad) (m + 1 : Nat) c) ∧ w'.cell? ⟨b2, 0, none⟩ = some (.int .i64 t) ∧ w'.cell? (ad.add (i * 2)) = some (.int .i64 a0) ∧ w'.cell? ⟨(ad.add (i * 2)).block, (ad.add (i * 2)).off + 1, none⟩ = some (.int .i64 a1) ∧ w'.cell? (ad.add ((i + 1) * 2)) = some (.int .i64 b0) ∧ w'.cell? ⟨(ad.add ((i + 1) * 2)).block, (ad.add ((i + 1) * 2)).off + 1, none⟩ = some (.int .i64 b1'))
      ((first | exact KEEP.out _ cumB | exact KEEP.out _ cumA | exact KEEP.out _ (Below.drew (Below.refl _ _)) | exact KEEP.out _ (Below.refl _ _)))
      ((first
        | (go_at_call_of 28 (Value.agg #[Value.int IntKind.i64 a0, Value.int IntKind.i64 a1]); refine (c1.out _).mono ?_; rintro E wa ⟨rfl, ha⟩; have cumA : Below w.heap.size w wa := (by first | exact below_step cumB ha | exact below_step (Below.drew (Below.refl _ _)) ha | exact below_step (Below.refl _ _) ha))
        | (go_at_call_of 28 (Value.agg #[Value.int IntKind.i64 b0, Value.int IntKind.i64 b1']); refine (c2.out _).mono ?_; rintro E wb ⟨rfl, hb⟩; have cumB : Below w.heap.size w wb := (by first | exact below_step cumA hb | exact below_step (Below.drew (Below.refl _ _)) hb | exact below_step (Below.refl _ _) hb))))
    all_goals go_wp2_with fail
    all_goals go_ret
    all_goals exact ⟨rfl, cumB⟩
theorem kp_len (L : List (Int × Int)) (t : Int) : ∀ k, (kp L t k).length ≤ k
  | 0 => by simp [kp]
  | k + 1 => by
    have := kp_len L t k
    unfold kp
    split
    · simp; omega
    · omega
set_option maxRecDepth 100000 in
set_option maxHeartbeats 4000000 in
theorem kept_any (b1 b2 : Nat) (A : Option Addr) (L : List (Int × Int)) (c : Nat) (t : Int) (hL : L.length ≤ 1000000) (hm : MayAll L) (t0 : 0 ≤ t) (t1 : t ≤ 2147483647) (w : World)
    (h1 : w.cell? ⟨b1, 0, none⟩ = some (.slice A L.length c)) (h2 : w.cell? ⟨b2, 0, none⟩ = some (.int .i64 t)) (hb1 : b1 < w.heap.size) (hb2 : b2 < w.heap.size) (hA : Lie sendV 2 w w.heap.size A L) :
    Calls Try.prog 31 #[.slice A L.length c, .func (.func 32) #[] #[.pointer (some ⟨b1, 0, none⟩), .pointer (some ⟨b2, 0, none⟩)]] w fun e w' => ∃ v, e = .returned v ∧ OwnL sendV 2 w' w.heap.size 44 v (kp L t L.length) ∧ Below w.heap.size w w' := by
  obtain ⟨i0, hi, hz0, hz1, hz2⟩ := info_parts lineInfo
  have HA := hidd hA
  have cl := hidd (fun (i : Nat) (hi : i < L.length) (W : World) (hW : Below w.heap.size w W) => later1_any b1 b2 A L c t i hi hL hm t0 t1 W ((hW.cell (p := ⟨b1, 0, none⟩) hb1).trans h1) ((hW.cell (p := ⟨b2, 0, none⟩) hb2).trans h2) (Nat.lt_of_lt_of_le hb1 hW.size) (Nat.lt_of_lt_of_le hb2 hW.size) (hA.below hW))
  clear hA h1 h2 hm
  go_enter Try.func31, Try.ntmps31
  go_wp2_with fail
  go_loopg [5, 10] (L.length + 2) (fun g s5 s10 wr => ∃ i : Nat, i ≤ L.length ∧ i + g = L.length + 2 ∧ s10 = .int .i64 (i : Int) ∧ OwnL sendV 2 wr w.heap.size 44 s5 (kp L t i) ∧ Below w.heap.size w wr)
  case atStart => exact ⟨0, by omega, by omega, rfl, OwnL.nil _ _ _, Below.refl _ _⟩
  case round =>
    obtain ⟨i, hi1, hg, rfl, hO, hB⟩ := hrel
    have HG := hidd hg
    have HO := hidd hO
    have HB := hidd hB
    clear hg hO hB
    by_cases hin : i < L.length
    · have hin2 : (i : Int) < (L.length : Int) := by omega
      have hi0 : (0 : Int) ≤ (i : Int) := by omega
      obtain ⟨ad, rfl, ha, x0, x1⟩ := (HA.out.below HB.out).send i hin
      rw [(av_at hin).1] at x0
      rw [(av_at hin).2] at x1
      have hkl := kp_len L t i
      have hst : kp L t (i + 1) = if laterB L t i then kp L t i ++ [(SM.av L i, SM.sv L i)] else kp L t i := rfl
      have HST := hidd hst
      have ck := hidd (fun W hW => cl.out i hin W hW)
      obtain ⟨M, hM⟩ : ∃ M, laterB L t i = M := ⟨_, rfl⟩
      rw [hM] at ck HST
      clear hM hst
      have HBX := hidd (LineBox.new wr 44 (SM.av L i) (SM.sv L i))
      generalize SM.av L i = a0 at *
      generalize SM.sv L i = a1 at *
      have hBn := hidd (below_new HB.out (.cells #[.int .i64 a0, .int .i64 a1] 44))
      go_wp2_with fail
      refine (ck.out _ hBn.out).mono ?_
      rintro e w1 ⟨rfl, hb1'⟩
      have hX := HBX.out.step hb1'
      obtain ⟨hx9, z0, z1⟩ := hX
      have hB1 := hidd (below_step hBn.out hb1')
      have hO1 := hidd ((HO.out.alloc (.cells #[.int .i64 a0, .int .i64 a1] 44)).below hb1')
      clear hb1' x0 x1
      cases M
      · go_wp2_with fail
        have hg := HG.out
        go_roundg (gk - 1)
        case measure => omega
        case rel => exact ⟨i + 1, by omega, by omega, by go_num, by rw [HST.out]; exact hO1.out, hB1.out⟩
      · have hkl2 : (kp L t i).length ≤ 1000000 := by omega
        go_wp2_with (at_builtin; refine wpList_append_some (by rfl) (.tmp 18) (.tmp 20) _ (by rfl) w.heap.size 44 i0 _ 2 16 Try.underlying24 hi hz0 hz1 hz2 rfl (by omega) _ _ _ (by rfl) (World.ownsRow.alloc hO1.out _) (some ⟨_, 0, none⟩) 1 1 [.int .i64 a0, .int .i64 a1] (by rfl) (by rfl) (fun _ => ⟨_, rfl, World.news_of_block (cs := #[.int .i64 a0, .int .i64 a1]) (t := 44) (fr := (0, 0)) (heap_alloc_new _ _)⟩) (by simp [Value.oneCell']) (by simp only [maxLen]; omega) (by omega) (by have := hB1.out.size; first | omega | (simp; omega)) ?_; intro v1 wa hown1 hgrow1 hat1)
        have hB4 : Below w.heap.size w wa := Below.grown (below_new hB1.out _) hgrow1 (by have := hB1.out.size; first | omega | (simp; omega)) (fun k hk => (OwnL.lt hO1.out k hk).1)
        have hO4 : OwnL sendV 2 wa w.heap.size 44 v1 (kp L t (i + 1)) := by rw [HST.out]; exact OwnL.snoc (f := sendV) (L := kp L t i) (x := (a0, a1)) hown1 rfl rfl
        have hg := HG.out
        have hB4' := hidd hB4
        have hO4' := hidd hO4
        clear hB4 hO4 hown1 hgrow1 hat1
        go_wp2_with fail
        go_roundg (gk - 1)
        case measure => omega
        case rel => exact ⟨i + 1, by omega, by omega, by go_num, hO4'.out, hB4'.out⟩
    · obtain rfl : i = L.length := by omega
      go_wp2_with fail
      go_ret
      exact ⟨_, rfl, HO.out, HB.out⟩
end Go.Proofs.Ytpgaklfgbioocaa
