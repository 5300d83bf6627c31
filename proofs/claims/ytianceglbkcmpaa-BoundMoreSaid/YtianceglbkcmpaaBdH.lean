/- The terms of a way; the document's terms of a link and of a way. -/
import Derived.Test.YtianceglbkcmpaaBdG
namespace Go.Proofs.Ytianceglbkcmpaa
set_option linter.unusedVariables false
open Go.RowKit

def allT (l : List (Int × Int)) : Bool := l.all fun x => termsB x.1 x.2
def FoundT (l : List (Int × Int)) (w : World) (e : Ending) (w' : World) : Prop :=
  ∃ k : Int, e = .returned (.int .i64 k) ∧ decide (0 ≤ k) = !allT l ∧ Below w.heap.size w w'
theorem allT_step {l : List (Int × Int)} {i : Nat} (hlt : i < l.length) : allT (l.take (i + 1)) = (allT (l.take i) && termsB (l[i]'hlt).1 (l[i]'hlt).2) := by
  unfold allT
  rw [List.take_succ_eq_append_getElem hlt, List.all_append]; simp
theorem allT_no {l : List (Int × Int)} {i : Nat} (hlt : i < l.length) (h : termsB (l[i]'hlt).1 (l[i]'hlt).2 = false) : allT l = false := by
  unfold allT
  exact List.all_eq_false.2 ⟨_, List.getElem_mem hlt, by simp [h]⟩
set_option maxHeartbeats 1000000 in
theorem indexT_any (A : Option Addr) (l : List (Int × Int)) (c : Nat) (w : World) (hl : LiesO w A l) (hm : l.length ≤ 1000000) :
    Calls Try.prog 57 #[.slice A l.length c, .func (Fn.func 35) #[] #[]] w (FoundT l w) := by
  go_enter Try.func57, Try.ntmps57
  go_wp2_with fail
  go_loopg [8] (l.length + 1) (fun k s wr => ∃ i : Nat, i ≤ l.length ∧ i + k = l.length + 1 ∧ allT (l.take i) = true ∧ s = .int .i64 (i : Int) ∧ Below w.heap.size w wr)
  case atStart => exact ⟨0, by omega, by omega, rfl, rfl, Below.refl _ _⟩
  case round =>
    obtain ⟨i, hi, hk, ha, rfl, hbl⟩ := hrel
    have HK := hidd hk
    have HA := hidd ha
    clear hk ha
    by_cases hlt : i < l.length
    · obtain ⟨ad, rfl, hbs, hll⟩ := (hl.below hbl) (by omega)
      have hq := hll i hlt
      have hin2 : (i : Int) < (l.length : Int) := by omega
      have hi0 : (0 : Int) ≤ (i : Int) := by omega
      have htk := allT_step hlt
      have hal := allT_no hlt
      generalize (l[i]'hlt).1 = N at *
      generalize (l[i]'hlt).2 = D at *
      obtain ⟨c0, c1⟩ := hq
      have cn := hidd (fun W => isNoTerms_any N D W)
      have HTK := hidd htk
      have HAL := hidd hal
      clear htk hal hl hll
      generalize termsB N D = R at *
      cases R
      · go_wp2_with fail
        refine (cn.out _).mono ?_
        rintro e w1 ⟨rfl, hb1⟩
        go_wp2_with fail
        go_ret
        exact ⟨i, rfl, by rw [HAL.out (by trivial)]; exact decide_eq_true (by omega), hbl.trans (hb1.mono hbl.size)⟩
      · go_wp2_with fail
        refine (cn.out _).mono ?_
        rintro e w1 ⟨rfl, hb1⟩
        go_wp2_with fail
        have hk := HK.out
        go_roundg (gk - 1)
        case measure => omega
        case rel => exact ⟨i + 1, by omega, by omega, by rw [HTK.out, HA.out]; rfl, by go_num, hbl.trans (hb1.mono hbl.size)⟩
    · go_wp2_with fail
      go_ret
      have hi2 : i = l.length := by omega
      have ha := HA.out
      rw [hi2, List.take_length] at ha
      exact ⟨-1, rfl, by rw [ha]; decide, hbl⟩
theorem containsT_any (A : Option Addr) (l : List (Int × Int)) (c : Nat) (w : World) (hl : LiesO w A l) (hm : l.length ≤ 1000000) :
    Calls Try.prog 34 #[.slice A l.length c, .func (Fn.func 35) #[] #[]] w fun e w' => e = .returned (.bool (!allT l)) ∧ Below w.heap.size w w' := by
  have ci := hidd (indexT_any A l c w hl hm)
  clear hl
  go_enter Try.func34, Try.ntmps34
  go_wp2_with fail
  refine ci.out.mono ?_
  rintro e w1 ⟨k, rfl, hk, hb1⟩
  have HK := hidd hk
  clear hk
  go_wp2_with fail
  go_ret
  exact ⟨by rw [← HK.out]; rfl, hb1⟩
def sumC (l : List (Int × Int)) : Int := (l.map fun x => x.1).sum
def sumD (l : List (Int × Int)) : Int := (l.map fun x => x.2).sum
theorem sum_step {l : List (Int × Int)} {i : Nat} (hlt : i < l.length) : sumC (l.take (i + 1)) = sumC (l.take i) + (l[i]'hlt).1 ∧ sumD (l.take (i + 1)) = sumD (l.take i) + (l[i]'hlt).2 := by
  unfold sumC sumD
  rw [List.take_succ_eq_append_getElem hlt, List.map_append, List.map_append, List.sum_append, List.sum_append]
  simp only [List.map_cons, List.map_nil, List.sum_cons, List.sum_nil, Int.add_zero]
  exact ⟨trivial, trivial⟩
theorem allT_at {l : List (Int × Int)} (h : allT l = true) {i : Nat} (hlt : i < l.length) : (0 ≤ (l[i]'hlt).1 ∧ (l[i]'hlt).1 ≤ 10000000) ∧ 0 ≤ (l[i]'hlt).2 ∧ (l[i]'hlt).2 ≤ 1000000 := by
  have := List.all_eq_true.1 h _ (List.getElem_mem hlt)
  unfold termsB at this
  rw [Bool.and_eq_true] at this
  exact ⟨fromB_iff.1 this.1, fromB_iff.1 this.2⟩
set_option maxRecDepth 100000 in
set_option maxHeartbeats 4000000 in
theorem togetherT_any (A : Option Addr) (l : List (Int × Int)) (c : Nat) (hm : l.length ≤ 1000) (ha : allT l = true) (w : World) (hl : LiesO w A l) :
    Calls Try.prog 38 #[.slice A l.length c] w fun e w' => e = .returned (.agg #[.int .i64 (sumC l), .int .i64 (sumD l)]) ∧ Below w.heap.size w w' := by
  have HL := hidd hl
  have HA := hidd ha
  clear hl ha
  go_enter Try.func38, Try.ntmps38
  go_wp2_with fail
  go_loopg [8] (l.length + 1) (fun g s8 wr => ∃ (i : Nat) (C D : Int), i ≤ l.length ∧ i + g = l.length + 1 ∧ s8 = .int .i64 (i : Int) ∧ (C = sumC (l.take i) ∧ D = sumD (l.take i)) ∧ ((0 ≤ C ∧ C ≤ i * 10000000) ∧ 0 ≤ D ∧ D ≤ i * 1000000) ∧ Below w.heap.size w wr ∧ GBox wr (w.heap.size + 1) C D ∧ GBox wr w.heap.size 0 0)
  case atStart => exact ⟨0, 0, 0, by omega, by omega, by first | rfl | simp, ⟨rfl, rfl⟩, by omega, by (repeat' (first | (with_reducible exact Below.refl _ _) | (with_reducible assumption) | (with_reducible apply Below.setCell) | (with_reducible apply Below.alloc) | (with_reducible apply Below.drew) | (with_reducible apply below_drewN) | (with_reducible refine Below.trans ?_ (Below.mono (by assumption) ?_)) | omega | (simp; done) | (simp; omega))), GBox.new (by simp) _ 0 0, (GBox.new rfl _ 0 0).past _⟩
  case round =>
    obtain ⟨i, C, D, hi1, hg, rfl, hCD, ⟨⟨hC0, hC1⟩, hD0, hD1⟩, hB, hX, hZ⟩ := hrel
    have HG := hidd hg
    have HCD := hidd hCD
    have HB := hidd hB
    have HX := hidd hX
    have HZ := hidd hZ
    have hs := hB.size
    clear hg hCD hB hX hZ
    obtain ⟨xz, q0, q1, q2, q3⟩ := HX.out
    by_cases hlt : i < l.length
    · obtain ⟨ad, rfl, hbs, hll⟩ := (HL.out.below HB.out) (by omega)
      have hbs2 : (ad.add (i * 2)).block < wr.heap.size := by rw [block_of_add]; exact hbs
      obtain ⟨p0, p1⟩ := hll i hlt
      obtain ⟨⟨t0, t1⟩, t2, t3⟩ := allT_at HA.out hlt
      have hst := hidd (sum_step hlt)
      have hin2 : (i : Int) < (l.length : Int) := by omega
      have hi0 : (0 : Int) ≤ (i : Int) := by omega
      generalize (l[i]'hlt).1 = u at *
      generalize (l[i]'hlt).2 = v at *
      have e1 : IntKind.i64.wrap (C + u) = C + u := IntWalk.i64_in _ (by omega)
      have e2 : IntKind.i64.wrap (D + v) = D + v := IntWalk.i64_in _ (by omega)
      clear hll
      go_wp2_with fail
      have hg := HG.out
      have hX1 := (HX.out.put (C + u) (D + v)).past (.cells #[.int .i64 u, .int .i64 v] 25)
      have hZ1 := (GBox.far (b := w.heap.size + 1) (by omega) HZ.out (C + u) (D + v)).past (.cells #[.int .i64 u, .int .i64 v] 25)
      go_roundg (gk - 1)
      case measure => omega
      case rel => exact ⟨i + 1, C + u, D + v, by omega, by omega, by go_num, ⟨by rw [hst.out.1, HCD.out.1], by rw [hst.out.2, HCD.out.2]⟩, by omega, by have := HB.out; (repeat' (first | (with_reducible exact Below.refl _ _) | (with_reducible assumption) | (with_reducible apply Below.setCell) | (with_reducible apply Below.alloc) | (with_reducible apply Below.drew) | (with_reducible apply below_drewN) | (with_reducible refine Below.trans ?_ (Below.mono (by assumption) ?_)) | omega | (simp; done) | (simp; omega))), hX1, hZ1⟩
    · obtain rfl : i = l.length := by omega
      obtain ⟨zz, z0, z1, z2, z3⟩ := HZ.out
      have hE := hidd (show C = sumC l ∧ D = sumD l by have := HCD.out; rwa [List.take_length] at this)
      clear HCD HX HZ
      go_wp2_with fail
      exact bodyPost_ret (v := .agg #[.int .i64 C, .int .i64 D]) (by simp [results, Try.results38, go_sem, *]) rfl ⟨by rw [← hE.out.1, ← hE.out.2], by have := HB.out; (repeat' (first | (with_reducible exact Below.refl _ _) | (with_reducible assumption) | (with_reducible apply Below.setCell) | (with_reducible apply Below.alloc) | (with_reducible apply Below.drew) | (with_reducible apply below_drewN) | (with_reducible refine Below.trans ?_ (Below.mono (by assumption) ?_)) | omega | (simp; done) | (simp; omega)))⟩
end Go.Proofs.Ytianceglbkcmpaa
