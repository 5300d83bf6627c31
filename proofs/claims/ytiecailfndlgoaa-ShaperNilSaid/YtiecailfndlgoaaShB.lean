/- Shapers: how many bytes wait; a shaper in memory; is one there; any of some truths; sizes. -/
import Derived.Test.YtiecailfndlgoaaShA
import Derived.Test.YtiecailfndlgoaaBkM
import Derived.Lib.QuietBelow
namespace Go.Proofs.Ytiecailfndlgoaa
open Go.RowKit Go.Sort
set_option linter.unusedVariables false
/-- how many bytes. -/
def sumB : List (Int × Int) → Int
  | [] => 0
  | x :: L => x.2 + sumB L
theorem sumB_app : ∀ (L M : List (Int × Int)), sumB (L ++ M) = sumB L + sumB M
  | [], M => by simp [sumB]
  | x :: L, M => by simp only [List.cons_append, sumB, sumB_app L M]; omega
theorem sumB_take (L : List (Int × Int)) (k : Nat) : sumB (L.take k) + sumB (L.drop k) = sumB L := by rw [← sumB_app, List.take_append_drop]
theorem sumB_snoc (L : List (Int × Int)) (x : Int × Int) : sumB (L ++ [x]) = sumB L + x.2 := by rw [sumB_app]; simp [sumB]
theorem sumB_one {L : List (Int × Int)} {k : Nat} (hk : k < L.length) : sumB (L.take (k + 1)) = sumB (L.take k) + L[k].2 := by rw [List.take_succ_eq_append_getElem hk, sumB_snoc]
/-- each of them is of a size that may be. -/
def Szs (m l : Int) (L : List (Int × Int)) : Prop := ∀ x ∈ L, l ≤ x.2 ∧ x.2 ≤ m
theorem Szs.sum {m l : Int} (h1 : 1 ≤ l) : ∀ {L : List (Int × Int)}, Szs m l L → (L.length : Int) ≤ sumB L
  | [], _ => by simp [sumB]
  | x :: L, h => by
    have a := (h x (by simp)).1
    have b := Szs.sum h1 (L := L) (fun y hy => h y (List.mem_cons_of_mem _ hy))
    simp only [sumB, List.length_cons]
    omega
theorem Szs.sub {m l : Int} {L M : List (Int × Int)} (h : Szs m l L) (hs : ∀ x ∈ M, x ∈ L) : Szs m l M := fun x hx => h x (hs x hx)
theorem Szs.drop {m l : Int} {L : List (Int × Int)} (h : Szs m l L) (k : Nat) : Szs m l (L.drop k) := h.sub fun _ hx => List.mem_of_mem_drop hx
theorem Szs.take {m l : Int} {L : List (Int × Int)} (h : Szs m l L) (k : Nat) : Szs m l (L.take k) := h.sub fun _ hx => List.mem_of_mem_take hx
theorem Szs.snoc {m l : Int} {L : List (Int × Int)} (h : Szs m l L) {x : Int × Int} (hx : l ≤ x.2 ∧ x.2 ≤ m) : Szs m l (L ++ [x]) := fun y hy => by
  rcases List.mem_append.1 hy with q | q
  · exact h y q
  · rw [List.mem_singleton] at q; subst q; exact hx
/-- a shaper lies in block h, what it keeps in block g, its bucket in block b, what waits in the slice v. -/
structure ShAt (w : World) (h g b : Nat) (v : Value) (p r u m l : Int) (s : BM.St) (room : Int) (L : List (Int × Int)) : Prop where
  bk : BktAt w b p r u m l s
  q : QL w v L
  h0 : w.cell? ⟨h, 0, none⟩ = some (.pointer (some ⟨g, 0, none⟩))
  g0 : w.cell? ⟨g, 0, none⟩ = some (.pointer (some ⟨b, 0, none⟩))
  g1 : w.cell? ⟨g, 1, none⟩ = some v
  g2 : w.cell? ⟨g, 2, none⟩ = some (.int .i64 (sumB L))
  g3 : w.cell? ⟨g, 3, none⟩ = some (.int .i64 room)
  e1 : w.frozen? ⟨g, 1, none⟩ = false
  e2 : w.frozen? ⟨g, 2, none⟩ = false
  hg : h ≠ g
  hb : h ≠ b
  gb : g ≠ b
  vh : v.ownBlock ≠ some h
  vg : v.ownBlock ≠ some g
  vb : v.ownBlock ≠ some b
  rt : rightB p r u m l = true
  ok : BM.Ok u m s
  sz : Szs m l L
  r0 : 0 ≤ room
  r1 : room ≤ 1000000000
  sm : sumB L ≤ room
/-- its blocks. -/
def ShBlk (h g b : Nat) (v : Value) (k : Nat) : Prop := k = h ∨ k = g ∨ k = b ∨ v.ownBlock = some k
section
variable {w w' : World} {h g b : Nat} {v : Value} {p r u m l : Int} {s : BM.St} {room : Int} {L : List (Int × Int)}
theorem ShAt.hlt (H : ShAt w h g b v p r u m l s room L) : h < w.heap.size := World.block_lt_of_cell? w _ H.h0
theorem ShAt.glt (H : ShAt w h g b v p r u m l s room L) : g < w.heap.size := World.block_lt_of_cell? w _ H.g0
theorem ShAt.blt (H : ShAt w h g b v p r u m l s room L) : b < w.heap.size := H.bk.lt
theorem ShAt.lt (H : ShAt w h g b v p r u m l s room L) {k : Nat} (hk : ShBlk h g b v k) : k < w.heap.size := by
  rcases hk with rfl | rfl | rfl | e
  · exact H.hlt
  · exact H.glt
  · exact H.blt
  · exact H.q.lt k e
theorem ShAt.keep (H : ShAt w h g b v p r u m l s room L) (hs : w.heap.size ≤ w'.heap.size) (hk : ∀ k, ShBlk h g b v k → w'.heap[k]? = w.heap[k]?) : ShAt w' h g b v p r u m l s room L := by
  have ch := fun o => World.cell?_of_block (w := w) (w' := w') (a := ⟨h, o, none⟩) (hk h (.inl rfl))
  have cg := fun o => World.cell?_of_block (w := w) (w' := w') (a := ⟨g, o, none⟩) (hk g (.inr (.inl rfl)))
  have fg := fun o => World.frozen?_of_block (w := w) (w' := w') (a := ⟨g, o, none⟩) (hk g (.inr (.inl rfl)))
  exact ⟨H.bk.of (hk b (.inr (.inr (.inl rfl)))) hs, H.q.keep (fun k e => hk k (.inr (.inr (.inr e)))) hs, (ch 0).trans H.h0, (cg 0).trans H.g0, (cg 1).trans H.g1, (cg 2).trans H.g2, (cg 3).trans H.g3, (fg 1).trans H.e1, (fg 2).trans H.e2, H.hg, H.hb, H.gb, H.vh, H.vg, H.vb, H.rt, H.ok, H.sz, H.r0, H.r1, H.sm⟩
theorem ShAt.below (H : ShAt w h g b v p r u m l s room L) (hb : Below w.heap.size w w') : ShAt w' h g b v p r u m l s room L := H.keep hb.size (fun k hk => hb.block k (H.lt hk))
theorem ShAt.sav (H : ShAt w h g b v p r u m l s room L) {S : Nat → Prop} (hs : Sav S w w') (hn : ∀ k, ShBlk h g b v k → ¬ S k) : ShAt w' h g b v p r u m l s room L := H.keep hs.size (fun k hk => hs.block k (H.lt hk) (hn k hk))
theorem ShAt.len (H : ShAt w h g b v p r u m l s room L) : (L.length : Int) ≤ 1000000000 := by
  have := H.sz.sum (by have := rightB_iff H.rt; omega : 1 ≤ l)
  have := H.sm
  have := H.r1
  omega
end
/-- the cell that tells what a shaper keeps. -/
def PtrAt (w : World) (h : Nat) (a : Option Addr) : Prop := w.cell? ⟨h, 0, none⟩ = some (.pointer a)
theorem shNone_nil (w : World) : Calls Try.prog 31 #[.pointer none] w fun e w' => e = .returned (.bool true) ∧ w = w' := by
  go_enter Try.func31, Try.ntmps31
  go_wp2_with fail
  go_ret
  exact ⟨by simp, rfl⟩
theorem shNone_zero {h : Nat} {w : World} (hz : PtrAt w h none) : Calls Try.prog 31 #[.pointer (some ⟨h, 0, none⟩)] w fun e w' => e = .returned (.bool true) ∧ w = w' := by
  unfold PtrAt at hz
  go_enter Try.func31, Try.ntmps31
  go_wp2_with fail
  go_ret
  exact ⟨by simp, rfl⟩
theorem shNone_yes {h g : Nat} {w : World} (hz : PtrAt w h (some ⟨g, 0, none⟩)) : Calls Try.prog 31 #[.pointer (some ⟨h, 0, none⟩)] w fun e w' => e = .returned (.bool false) ∧ w = w' := by
  unfold PtrAt at hz
  go_enter Try.func31, Try.ntmps31
  go_wp2_with fail
  go_ret
  exact ⟨by simp, rfl⟩
def boolV (b : Bool) : List Value := [.bool b]
theorem Lie.bool {w : World} {B : Nat} {A : Option Addr} {l : List Bool} (h : Lie boolV 1 w B A l) (i : Nat) (hi : i < l.length) :
    ∃ ad, A = some ad ∧ ad.block < B ∧ w.cell? (ad.add (i * 1)) = some (.bool l[i]) := by
  obtain ⟨ad, e, hB, hc⟩ := h (by omega)
  exact ⟨ad, e, hB, hc i _ (List.getElem?_eq_getElem hi) 0 _ rfl⟩
set_option maxHeartbeats 2000000 in
theorem idxB_any (A : Option Addr) (l : List Bool) (c : Nat) (hL : l.length ≤ 1000) (w : World) (hA : Lie boolV 1 w w.heap.size A l) :
    Calls Try.prog 59 #[.slice A l.length c, .bool true] w fun e w' => (∃ n : Int, e = .returned (.int .i64 n) ∧ (0 ≤ n ↔ l.any id = true)) ∧ w' = w := by
  have HA := hidd hA
  obtain ⟨P, hP⟩ : ∃ P : Prop, (l.any id = true) = P := ⟨_, rfl⟩
  have HP := hidd hP
  rw [hP]
  have HID : Hid (∀ n : Int, (0 ≤ n ↔ P) → ∃ n' : Int, Ending.returned (Value.int .i64 n) = .returned (.int .i64 n') ∧ (0 ≤ n' ↔ P)) := hidd (fun n h => ⟨n, rfl, h⟩)
  clear hA hP
  go_enter Try.func59, Try.ntmps59
  go_wp2_with fail
  go_loopg [8] (l.length + 1) (fun gk s8 wr => ∃ i : Nat, i ≤ l.length ∧ i + gk = l.length + 1 ∧ s8 = .int .i64 (i : Int) ∧ (∀ j (hj : j < l.length), j < i → l[j] = false) ∧ w = wr)
  case atStart => exact ⟨0, by omega, by omega, rfl, fun j _ h => absurd h (by omega), rfl⟩
  case round =>
    obtain ⟨i, hi, hk, rfl, hs, rfl⟩ := hrel
    have HK := hidd hk
    have HS := hidd hs
    clear hk hs
    by_cases hin : i < l.length
    · have z1 : (i : Int) < (l.length : Int) := by omega
      have z0 : (0 : Int) ≤ (i : Int) := by omega
      obtain ⟨ad, rfl, ha, x0⟩ := HA.out.bool i hin
      rw [Nat.mul_one] at x0
      have HY := hidd (rfl : l[i] = l[i])
      obtain ⟨B, hB⟩ : ∃ B, l[i] = B := ⟨_, rfl⟩
      have HB := hidd hB
      rw [hB] at x0
      clear hB HY
      cases B
      · go_wp2_with fail
        have hk := HK.out
        go_roundg (gk - 1)
        case measure => omega
        case rel => exact ⟨i + 1, by omega, by omega, by go_num, fun j hj h => by
          by_cases e : j = i
          · subst e; exact HB.out
          · exact HS.out j hj (by omega), rfl⟩
      · have hyes : P := by rw [← HP.out]; exact List.any_eq_true.2 ⟨l[i], List.getElem_mem hin, by rw [HB.out]; rfl⟩
        have HYES := hidd hyes
        clear hyes
        go_wp2_with fail
        go_ret
        exact ⟨HID.out _ ⟨fun _ => HYES.out, fun _ => by omega⟩, rfl⟩
    · have z1 : ¬ (i : Int) < (l.length : Int) := by omega
      have hno : ¬ P := by
        rw [← HP.out]
        intro h
        obtain ⟨x, hx, hb⟩ := List.any_eq_true.1 h
        obtain ⟨j, hj, rfl⟩ := List.getElem_of_mem hx
        rw [HS.out j hj (by omega)] at hb
        cases hb
      have HNO := hidd hno
      clear hno
      go_wp2_with fail
      go_ret
      exact ⟨HID.out _ ⟨fun h => absurd h (by omega), fun h => absurd h HNO.out⟩, rfl⟩
theorem isAny_any (A : Option Addr) (l : List Bool) (c : Nat) (hL : l.length ≤ 1000) (w : World) (hA : Lie boolV 1 w w.heap.size A l) :
    Calls Try.prog 26 #[.slice A l.length c] w fun e w' => e = .returned (.bool (l.any id)) ∧ w' = w := by
  have ci := hidd (idxB_any A l c hL w hA)
  have cc : Hid (Calls Try.prog 47 #[.slice A l.length c, .bool true] w fun e w' => e = .returned (.bool (l.any id)) ∧ w' = w) := hidd (by
    generalize l.length = n at *
    generalize l.any id = B at *
    clear hA hL
    go_enter Try.func47, Try.ntmps47
    go_wp2_with fail
    refine ci.out.mono ?_
    rintro e w1 ⟨⟨k, rfl, hk⟩, rfl⟩
    have HK := hidd hk
    clear hk
    go_wp2_with fail
    go_ret
    exact ⟨ret_bool (by
      have := HK.out
      cases B
      · simp at this ⊢; omega
      · simp at this ⊢; omega), rfl⟩)
  generalize l.length = n at *
  generalize l.any id = B at *
  clear hA hL ci
  go_enter Try.func26, Try.ntmps26
  go_wp2_with fail
  refine cc.out.mono ?_
  rintro e w1 ⟨rfl, rfl⟩
  go_wp2_with fail
  go_ret
  exact ⟨rfl, rfl⟩
end Go.Proofs.Ytiecailfndlgoaa
