/- Going over a list: is one among many none. -/
import Derived.Test.YtgeankdimknmiaaRatPh
import Derived.Deep.LoopGhost
namespace Go.Proofs.Ytgeankdimknmiaa
open Go.RowKit

/-- a list of fractions' parts lies in memory: at block b from off on. -/
def Lies (w : World) (b off : Nat) (l : List (Int × Int)) : Prop :=
  ∀ i (h : i < l.length), w.cell? ⟨b, off + i * 2, none⟩ = some (.int .i64 (l[i]'h).1) ∧ w.cell? ⟨b, off + i * 2 + 1, none⟩ = some (.int .i64 (l[i]'h).2)
def Words (l : List (Int × Int)) : Prop :=
  ∀ x ∈ l, -9223372036854775808 ≤ x.1 ∧ x.1 ≤ 9223372036854775807 ∧ -9223372036854775808 ≤ x.2 ∧ x.2 ≤ 9223372036854775807
def allRight (l : List (Int × Int)) : Bool := l.all fun x => rightB x.1 x.2

theorem Lies.below {w w' : World} {b off : Nat} {l : List (Int × Int)} (h : Lies w b off l) (hb : Below w.heap.size w w') (hs : b < w.heap.size) : Lies w' b off l :=
  fun i hi => ⟨(hb.cell (p := ⟨b, _, none⟩) hs).trans (h i hi).1, (hb.cell (p := ⟨b, _, none⟩) hs).trans (h i hi).2⟩

/-- where the search ends. -/
def FoundEnd (l : List (Int × Int)) (w : World) (e : Ending) (w' : World) : Prop :=
  ∃ k : Int, e = .returned (.int .i64 k) ∧ decide (0 ≤ k) = !allRight l ∧ Below w.heap.size w w'

set_option maxHeartbeats 1000000 in
theorem index_any (l : List (Int × Int)) (hw : Words l) (b off c : Nat) (w : World) (hb : b < w.heap.size) (hl : Lies w b off l) (hm : l.length ≤ 1000000) :
    Calls Try.prog 86 #[.slice (some ⟨b, off, none⟩) l.length c, .func (Fn.func 69) #[] #[]] w (FoundEnd l w) := by
  go_enter Try.func86, Try.ntmps86
  go_wp2_with fail
  go_loopg [8] (l.length + 1) (fun k s wr => ∃ i : Nat, i ≤ l.length ∧ i + k = l.length + 1 ∧ allRight (l.take i) = true ∧ s = .int .i64 (i : Int) ∧ Below w.heap.size w wr)
  case atStart => exact ⟨0, by omega, by omega, rfl, rfl, Below.refl _ _⟩
  case round =>
    obtain ⟨i, hi, hk, ha, rfl, hbl⟩ := hrel
    have HK := hidd hk
    have HA := hidd ha
    clear hk ha
    by_cases hlt : i < l.length
    · have hq := (hl.below hbl hb) i hlt
      have hww := hw _ (List.getElem_mem hlt)
      have htk : allRight (l.take (i + 1)) = (allRight (l.take i) && rightB (l[i]'hlt).1 (l[i]'hlt).2) := by
        unfold allRight
        rw [List.take_succ_eq_append_getElem hlt, List.all_append]; simp
      have hal : rightB (l[i]'hlt).1 (l[i]'hlt).2 = false → allRight l = false := by
        intro h
        unfold allRight
        exact List.all_eq_false.2 ⟨_, List.getElem_mem hlt, by simp [h]⟩
      generalize (l[i]'hlt).1 = N at *
      generalize (l[i]'hlt).2 = D at *
      obtain ⟨c0, c1⟩ := hq
      have cn := hidd (fun W => isNone_any N D hww.1 hww.2.1 hww.2.2.1 hww.2.2.2 W)
      have HTK := hidd htk
      have HAL := hidd hal
      clear htk hal hl hww
      generalize rightB N D = R at *
      cases R
      · go_wp2_with fail
        refine (cn.out _).mono ?_
        rintro e w1 ⟨rfl, hb1⟩
        go_wp2_with fail
        go_ret
        exact ⟨i, rfl, by rw [HAL.out (by trivial)]; exact decide_eq_true (by omega), hbl.trans (hb1.mono hbl.size)⟩
      · go_wp2_with fail
        refine (cn.out _).mono ?_
        rintro e w1 ⟨rfl, hb1⟩
        go_wp2_with fail
        have hk := HK.out
        go_roundg (gk - 1)
        case measure => omega
        case rel => exact ⟨i + 1, by omega, by omega, by rw [HTK.out, HA.out]; rfl, by go_num, hbl.trans (hb1.mono hbl.size)⟩
    · go_wp2_with fail
      go_ret
      have hi2 : i = l.length := by omega
      have ha := HA.out
      rw [hi2, List.take_length] at ha
      exact ⟨-1, rfl, by rw [ha]; decide, hbl⟩

theorem index_nil (w : World) :
    Calls Try.prog 86 #[.slice none 0 0, .func (Fn.func 69) #[] #[]] w fun e w' => e = .returned (.int .i64 (-1)) ∧ w = w' := by
  go_enter Try.func86, Try.ntmps86
  go_wp2_with fail
  refine wp_loop_rounds 1 ?_
  rw [rounds_succ]
  go_wp2_with fail
  go_ret
  exact ⟨rfl, rfl⟩

theorem contains_any (l : List (Int × Int)) (hw : Words l) (b off c : Nat) (w : World) (hb : b < w.heap.size) (hl : Lies w b off l) (hm : l.length ≤ 1000000) :
    Calls Try.prog 68 #[.slice (some ⟨b, off, none⟩) l.length c, .func (Fn.func 69) #[] #[]] w fun e w' => e = .returned (.bool (!allRight l)) ∧ Below w.heap.size w w' := by
  have ci := hidd (index_any l hw b off c w hb hl hm)
  clear hl
  go_enter Try.func68, Try.ntmps68
  go_wp2_with fail
  refine ci.out.mono ?_
  rintro e w1 ⟨k, rfl, hk, hb1⟩
  have HK := hidd hk
  clear hk
  go_wp2_with fail
  go_ret
  exact ⟨by rw [← HK.out]; rfl, hb1⟩
theorem contains_nil (w : World) :
    Calls Try.prog 68 #[.slice none 0 0, .func (Fn.func 69) #[] #[]] w fun e w' => e = .returned (.bool false) ∧ w = w' := by
  go_enter Try.func68, Try.ntmps68
  go_wp2_with fail
  refine (index_nil _).mono ?_
  rintro e w1 ⟨rfl, rfl⟩
  go_wp2_with fail
  go_ret
  exact ⟨rfl, rfl⟩
end Go.Proofs.Ytgeankdimknmiaa
