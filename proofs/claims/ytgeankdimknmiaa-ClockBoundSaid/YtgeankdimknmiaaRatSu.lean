/- The sum of many fractions. -/
import Derived.Test.YtgeankdimknmiaaRatGa
import Derived.Test.YtgeankdimknmiaaRatPk
namespace Go.Proofs.Ytgeankdimknmiaa
set_option linter.unusedVariables false
open Go.RowKit

set_option maxHeartbeats 1000000 in
theorem index_list (A : Option Addr) (l : List (Int × Int)) (hw : Words l) (c : Nat) (w : World) (hl : LiesO w A l) (hm : l.length ≤ 1000000) :
    Calls Try.prog 86 #[.slice A l.length c, .func (Fn.func 69) #[] #[]] w (FoundEnd l w) := by
  go_enter Try.func86, Try.ntmps86
  go_wp2_with fail
  go_loopg [8] (l.length + 1) (fun k s wr => ∃ i : Nat, i ≤ l.length ∧ i + k = l.length + 1 ∧ allRight (l.take i) = true ∧ s = .int .i64 (i : Int) ∧ Below w.heap.size w wr)
  case atStart => exact ⟨0, by omega, by omega, rfl, rfl, Below.refl _ _⟩
  case round =>
    obtain ⟨i, hi, hk, ha, rfl, hbl⟩ := hrel
    have HK := hidd hk
    have HA := hidd ha
    clear hk ha
    by_cases hlt : i < l.length
    · obtain ⟨ad, rfl, hbs, hll⟩ := (hl.below hbl) (by omega)
      have hq := hll i hlt
      have hin2 : (i : Int) < (l.length : Int) := by omega
      have hi0 : (0 : Int) ≤ (i : Int) := by omega
      have hww := hw _ (List.getElem_mem hlt)
      have htk : allRight (l.take (i + 1)) = (allRight (l.take i) && rightB (l[i]'hlt).1 (l[i]'hlt).2) := by
        unfold allRight
        rw [List.take_succ_eq_append_getElem hlt, List.all_append]; simp
      have hal : rightB (l[i]'hlt).1 (l[i]'hlt).2 = false → allRight l = false := by
        intro h
        unfold allRight
        exact List.all_eq_false.2 ⟨_, List.getElem_mem hlt, by simp [h]⟩
      generalize (l[i]'hlt).1 = N at *
      generalize (l[i]'hlt).2 = D at *
      obtain ⟨c0, c1⟩ := hq
      have cn := hidd (fun W => isNone_any N D hww.1 hww.2.1 hww.2.2.1 hww.2.2.2 W)
      have HTK := hidd htk
      have HAL := hidd hal
      clear htk hal hl hww hll
      generalize rightB N D = R at *
      cases R
      · go_wp2_with fail
        refine (cn.out _).mono ?_
        rintro e w1 ⟨rfl, hb1⟩
        go_wp2_with fail
        go_ret
        exact ⟨i, rfl, by rw [HAL.out (by trivial)]; exact decide_eq_true (by omega), hbl.trans (hb1.mono hbl.size)⟩
      · go_wp2_with fail
        refine (cn.out _).mono ?_
        rintro e w1 ⟨rfl, hb1⟩
        go_wp2_with fail
        have hk := HK.out
        go_roundg (gk - 1)
        case measure => omega
        case rel => exact ⟨i + 1, by omega, by omega, by rw [HTK.out, HA.out]; rfl, by go_num, hbl.trans (hb1.mono hbl.size)⟩
    · go_wp2_with fail
      go_ret
      have hi2 : i = l.length := by omega
      have ha := HA.out
      rw [hi2, List.take_length] at ha
      exact ⟨-1, rfl, by rw [ha]; decide, hbl⟩

theorem contains_list (A : Option Addr) (l : List (Int × Int)) (hw : Words l) (c : Nat) (w : World) (hl : LiesO w A l) (hm : l.length ≤ 1000000) :
    Calls Try.prog 68 #[.slice A l.length c, .func (Fn.func 69) #[] #[]] w fun e w' => e = .returned (.bool (!allRight l)) ∧ Below w.heap.size w w' := by
  have ci := hidd (index_list A l hw c w hl hm)
  clear hl
  go_enter Try.func68, Try.ntmps68
  go_wp2_with fail
  refine ci.out.mono ?_
  rintro e w1 ⟨k, rfl, hk, hb1⟩
  have HK := hidd hk
  clear hk
  go_wp2_with fail
  go_ret
  exact ⟨by rw [← HK.out]; rfl, hb1⟩
/-- a list of fractions that lies in memory. -/
theorem looks_list (A : Option Addr) (l : List (Int × Int)) (c : Nat) (hw : Words l) (hm : l.length ≤ 1000000) (w : World) (hl : LiesO w A l) : Looks (.slice A l.length c) (!allRight l) w :=
  fun W hW => contains_list A l hw c W (hl.below hW) hm
def addF (a x : Int × Int) : Int × Int × Int := RM.plusR a.1 a.2 x.1 x.2
def RightW (a : Int × Int) : Prop := rightB a.1 a.2 = true ∧ -9223372036854775808 ≤ a.1 ∧ a.1 ≤ 9223372036854775807 ∧ a.2 ≤ 9223372036854775807
theorem allRight_mem {l : List (Int × Int)} (h : allRight l = true) (hw : Words l) {x : Int × Int} (hx : x ∈ l) : RightW x :=
  ⟨List.all_eq_true.1 h x hx, (hw x hx).1, (hw x hx).2.1, (hw x hx).2.2.2⟩
theorem rightW_plus {a x : Int × Int} (ha : RightW a) (hx : RightW x) (h : (addF a x).2.2 = 0) : RightW ((addF a x).1, (addF a x).2.1) := by
  have d1 := (of_decide_eq_true ha.1).1
  have d2 := (of_decide_eq_true hx.1).1
  have hp : RM.plusR a.1 a.2 x.1 x.2 = ((addF a x).1, (addF a x).2.1, 0) := by
    show addF a x = _
    rw [← h]
  obtain ⟨hr, _⟩ := (RM.plusR_ok a.1 a.2 x.1 x.2 _ _ d1 d2).1 hp
  exact ⟨decide_eq_true ⟨hr.1, by have := hr.2.2.1; omega, hr.2.2.2.2⟩, by have := hr.2.2.1; omega, hr.2.2.2.1, hr.2.1⟩
theorem entersPlus : ∀ args w, (callFunc 55 args).run Try.prog w = .ok (.enter 55 args) w := fun args w => by simp [callFunc, Try.func55, Try.f55, mark]
theorem gather_plus (A : Option Addr) (l : List (Int × Int)) (c : Nat) (hw : Words l) (hr : allRight l = true) (hm : l.length ≤ 1000000) (w : World) (hl : LiesO w A l) :
    Calls Try.prog 70 #[.slice A l.length c, .agg #[.int .i64 0, .int .i64 1], .func (Fn.func 55) #[] #[]] w fun e w' => e = endOf (foldR addF (0, 1) l) ∧ Below w.heap.size w w' :=
  gather_any 55 #[] entersPlus addF RightW A l c hm 0 1 w hl ⟨by decide +kernel, by decide, by decide, by decide⟩
    (fun a x ha hx h => rightW_plus ha (allRight_mem hr hw hx) h)
    (fun a x ha hx W _ => plus_any a.1 a.2 x.1 x.2 ha.2.1 ha.2.2.1 ha.2.2.2 (allRight_mem hr hw hx).2.1 (allRight_mem hr hw hx).2.2.1 (allRight_mem hr hw hx).2.2.2 ha.1 (allRight_mem hr hw hx).1 W)
theorem foldR_clean {f : Int × Int → Int × Int → Int × Int × Int} (hf : ∀ a x, Clean (f a x)) : ∀ (l : List (Int × Int)) (a : Int × Int), Clean (foldR f a l)
  | [], a => fun h => absurd rfl h
  | x :: l, a => by
    unfold foldR
    split
    · exact foldR_clean hf l _
    · exact hf a x
def sumR (l : List (Int × Int)) : Int × Int × Int := if allRight l then foldR addF (0, 1) l else (0, 0, 2)
end Go.Proofs.Ytgeankdimknmiaa
