/- Objects: numbers are taken out of bytes, each behind the one taken ahead of it. -/
import Derived.RangeFuncNested
import Derived.RangeFuncBound
import Derived.RangeFuncCalls
import Derived.RangeFuncLeaves
import Derived.RangeFuncBox
import Derived.Shelf.Abstract
import Derived.Shelf.RegionOpen
import Derived.OwnWalkIn
import Derived.TacticsInMore
import Derived.LoopNIn
import Derived.LoopIn
import Derived.Test.YtnneolkedekfbaaObM
namespace Go.Proofs.Ytnneolkedekfbaa
set_option linter.unusedVariables false
open Go.RowKit

/-- all that lay there but block b lies as it lay. -/
structure But (b : Nat) (w w' : World) : Prop where
  os : w'.os = w.os
  tape : w'.tape = w.tape
  output : w'.output = w.output
  size : w.heap.size ≤ w'.heap.size
  block : ∀ k, k < w.heap.size → k ≠ b → w'.heap[k]? = w.heap[k]?
theorem But.refl (b : Nat) (w : World) : But b w w := ⟨rfl, rfl, rfl, Nat.le_refl _, fun _ _ _ => rfl⟩
theorem But.trans {b : Nat} {x y z : World} (h : But b x y) (k : But b y z) : But b x z :=
  ⟨k.os.trans h.os, k.tape.trans h.tape, k.output.trans h.output, Nat.le_trans h.size k.size, fun i hi hn => (k.block i (Nat.lt_of_lt_of_le hi h.size) hn).trans (h.block i hi hn)⟩
theorem below_but {w w' : World} (h : Below w.heap.size w w') (b : Nat) : But b w w' := ⟨h.os, h.tape, h.output, h.size, fun k hk _ => h.block k hk⟩
theorem But.set {b : Nat} (w : World) (o : Nat) (v : Value) : But b w (w.setCell ⟨b, o, none⟩ v) :=
  ⟨rfl, rfl, rfl, by simp [World.setCell], fun k hk hn => Below.heap_setCell _ _ _ _ hn⟩
theorem But.below {b B : Nat} {w w' : World} (h : But b w w') (hb : B ≤ b) (hB : B ≤ w.heap.size) : Below B w w' := ⟨h.os, h.tape, h.output, h.size, fun k hk => h.block k (by omega) (by omega)⟩
theorem But.drew {b : Nat} {w W : World} (h : But b w W) : But b w W.drew := ⟨h.os, h.tape, h.output, h.size, h.block⟩
theorem But.fresh {b : Nat} {w W W' : World} (h : But b w W) (hb : Below w.heap.size W W') : But b w W' :=
  ⟨hb.os.trans h.os, hb.tape.trans h.tape, hb.output.trans h.output, Nat.le_trans h.size hb.size, fun k hk hn => (hb.block k hk).trans (h.block k hk hn)⟩

/-- a number of bytes, the higher ones first. -/
def numB (l : List Int) : Int := l.foldl (fun n x => 256 * n + x) 0
theorem numB_snoc (l : List Int) (x : Int) : numB (l ++ [x]) = 256 * numB l + x := by simp [numB]
theorem numB_nil : numB [] = 0 := rfl
theorem drop_take_one {L : List Int} {i j : Nat} (h : i + j < L.length) : (L.drop i).take (j + 1) = (L.drop i).take j ++ [av L (i + j)] := by
  have h1 : j < (L.drop i).length := by simp; omega
  rw [take_oneB h1]
  congr 2
  simp [av, List.getD_eq_getElem?_getD]
theorem numB_bound {L : List Int} (hb : Bytes L) (i : Nat) : ∀ j, 0 ≤ numB ((L.drop i).take j) ∧ numB ((L.drop i).take j) < 256 ^ j
  | 0 => by simp [numB]
  | j + 1 => by
    have ih := numB_bound hb i j
    by_cases h : i + j < L.length
    · rw [drop_take_one h, numB_snoc, Int.pow_succ]
      have := hb _ (av_mem h)
      omega
    · have e : (L.drop i).take (j + 1) = (L.drop i).take j := by
        rw [List.take_of_length_le (by simp; omega), List.take_of_length_le (by simp; omega)]
      rw [e, Int.pow_succ]
      omega
theorem or_byte {n x : Int} (hn : 0 ≤ n) (hn2 : n < 16777216) (hx : 0 ≤ x ∧ x ≤ 255) : bits .or .i64 (256 * n) x = 256 * n + x :=
  bits_join .i64 32 (by decide) (fun m h0 h1 => IntWalk.i64_in _ (by omega)) 8 _ _ (by omega) (by omega) (by omega) (by omega) (by omega) (by omega)
/-- a taker at place i of bytes. -/
structure TkAt (W : World) (pb pa : Nat) (A : Option Addr) (L : List Int) (c i : Nat) : Prop where
  cb : W.cell? ⟨pb, 0, none⟩ = some (.slice A L.length c)
  ca : Boxed W pa 3 (.int .i64 (i : Int))
  hl : LieQ byV 1 W (fun q => q ≠ pa ∧ q < W.heap.size) A L
  lt : pb < W.heap.size
  ne : pb ≠ pa
theorem TkAt.to {W W' : World} {pb pa : Nat} {A : Option Addr} {L : List Int} {c i : Nat} (h : TkAt W pb pa A L c i) (hb : But pa W W') (j : Nat) (hc : Boxed W' pa 3 (.int .i64 (j : Int))) : TkAt W' pb pa A L c j :=
  ⟨(World.cell?_of_block (hb.block pb h.lt h.ne)).trans h.cb, hc, h.hl.to (fun k hk => ⟨⟨hk.1, Nat.lt_of_lt_of_le hk.2 hb.size⟩, hb.block k hk.2 hk.1⟩), Nat.lt_of_lt_of_le h.lt hb.size, h.ne⟩
theorem TkAt.below {W W' : World} {pb pa : Nat} {A : Option Addr} {L : List Int} {c i : Nat} (h : TkAt W pb pa A L c i) (hb : Below W.heap.size W W') : TkAt W' pb pa A L c i :=
  h.to (below_but hb pa) i ((hb.block pa h.ca.lt).trans h.ca)
theorem TkAt.set {W : World} {pb pa : Nat} {A : Option Addr} {L : List Int} {c i : Nat} (h : TkAt W pb pa A L c i) (j : Nat) : TkAt (W.setCell ⟨pa, 0, none⟩ (.int .i64 (j : Int))) pb pa A L c j :=
  h.to (But.set W 0 _) j (h.ca.set _)
def TakeEnd (L : List Int) (pa i k : Nat) (w : World) (e : Ending) (w' : World) : Prop :=
  (i + k ≤ L.length ∧ e = .returned (.int .i64 (numB ((L.drop i).take k))) ∧ w' = w.setCell ⟨pa, 0, none⟩ (.int .i64 ((i + k : Nat) : Int))) ∨ (¬ i + k ≤ L.length ∧ e = errPanic 170 ∧ w' = w)
set_option maxRecDepth 100000 in
set_option maxHeartbeats 4000000 in
theorem take_any (pb pa : Nat) (A : Option Addr) (L : List Int) (c i k : Nat) (hk1 : 1 ≤ k) (hk4 : k ≤ 4) (hi : i ≤ L.length) (hL : L.length ≤ 1000000) (hc : L.length ≤ c) (hc2 : c ≤ maxLen) (hb : Bytes L) (w : World) (h : TkAt w pb pa A L c i) :
    Calls Try.prog 59 #[.int .i64 (k : Int), .pointer (some ⟨pb, 0, none⟩), .pointer (some ⟨pa, 0, none⟩)] w (TakeEnd L pa i k w) := by
  have HB := hidd hb
  have y0 := h.cb
  have y1 := h.ca.cell
  have y2 := h.ca.frozen
  have HT := hidd h
  have e1 : IntKind.i64.wrap ((L.length : Int) - (i : Int)) = (L.length : Int) - (i : Int) := IntWalk.i64_in _ (by omega)
  clear hb h
  by_cases hok : i + k ≤ L.length
  rotate_left
  · have h1 : ¬ ((k : Int) ≤ (L.length : Int) - (i : Int)) := by omega
    have HOK := hidd hok
    clear hok
    go_enter Try.func59, Try.ntmps59
    go_wp2_with fail
    refine (need_no _ _).mono ?_
    rintro e w1 ⟨rfl, rfl⟩
    go_wp2_with fail
    exact ⟨rfl, .inr ⟨HOK.out, rfl, rfl⟩⟩
  · have h1 : (k : Int) ≤ (L.length : Int) - (i : Int) := by omega
    have e2 : IntKind.i64.wrap ((i : Int) + (k : Int)) = (i : Int) + (k : Int) := IntWalk.i64_in _ (by omega)
    obtain ⟨ad, rfl, -, -⟩ := HT.out.hl (by omega)
    have HOK := hidd hok
    have hci : ¬ (c = i) := by omega
    go_enter Try.func59, Try.ntmps59
    go_wp2_with fail
    refine (need_yes _ _).mono ?_
    rintro e w1 ⟨rfl, rfl⟩
    go_wp2_with fail
    go_loopg [5, 22] (k + 1) (fun g s5 s22 wr => ∃ j : Nat, j ≤ k ∧ j + g = k + 1 ∧ s22 = .int .i64 (j : Int) ∧ s5 = .int .i64 (numB ((L.drop i).take j)) ∧ wr = w)
    case atStart => exact ⟨0, by omega, by omega, by first | rfl | simp, by simp [numB], rfl⟩
    case round =>
      obtain ⟨j, hj, hg, rfl, rfl, rfl⟩ := hrel
      have HG := hidd hg
      clear hg
      by_cases hin : j < k
      · have hin2 : (j : Int) < (k : Int) := by omega
        have hin3 : j < i + k - i := by omega
        have hin4 : (j : Int) < ((i + k - i : Nat) : Int) := by omega
        obtain ⟨ad', e0, -, x0⟩ := HT.out.hl.byte (i + j) (by omega)
        cases e0
        rw [← add_of_add] at x0
        have hx := HB.out _ (av_mem (show i + j < L.length by omega))
        obtain ⟨n0, n1⟩ := numB_bound HB.out i j
        have n2 : numB ((L.drop i).take j) < 16777216 := by
          have : (256 : Int) ^ j ≤ 256 ^ 3 := by
            have h4 : j = 0 ∨ j = 1 ∨ j = 2 ∨ j = 3 := by omega
            rcases h4 with rfl | rfl | rfl | rfl <;> decide
          have e : (256 : Int) ^ 3 = 16777216 := by decide
          omega
        have HN := hidd (show numB ((L.drop i).take (j + 1)) = 256 * numB ((L.drop i).take j) + av L (i + j) by rw [drop_take_one (by omega), numB_snoc])
        generalize numB ((L.drop i).take j) = n at *
        generalize av L (i + j) = x at *
        have f1 : IntKind.i64.wrap (n * 256) = 256 * n := by rw [IntWalk.i64_in _ (by omega)]; omega
        have f2 := or_byte n0 n2 hx
        have f3 : IntKind.i64.wrap x = x := IntWalk.i64_in _ (by omega)
        have f4 : IntKind.i64.wrap ((j : Int) + 1) = (j : Int) + 1 := IntWalk.i64_in _ (by omega)
        clear e1 e2 n1
        go_wp2_with fail
        have hg := HG.out
        go_roundg (gk - 1)
        case measure => omega
        case rel => exact ⟨j + 1, by omega, by omega, by go_num, by rw [HN.out], rfl⟩
      · obtain rfl : j = k := by omega
        have e3 : IntKind.i64.wrap ((i : Int) + (j : Int)) = (i : Int) + (j : Int) := IntWalk.i64_in _ (by omega)
        have HC := hidd (show ((i : Int) + (j : Int)) = ((i + j : Nat) : Int) by omega)
        generalize hn : numB ((L.drop i).take j) = n at *
        have HNB := hidd hn
        clear e1 e2 hn
        go_wp2_with fail
        go_ret
        exact .inl ⟨HOK.out, by rw [HNB.out]; rfl, by rw [← HC.out]⟩
theorem isOver_any (pb pa : Nat) (A : Option Addr) (L : List Int) (c i : Nat) (w : World) (h : TkAt w pb pa A L c i) :
    Calls Try.prog 60 #[.pointer (some ⟨pa, 0, none⟩), .pointer (some ⟨pb, 0, none⟩)] w fun e w' => e = .returned (.bool (decide ((i : Int) = (L.length : Int)))) ∧ w = w' := by
  have y0 := h.cb
  have y1 := h.ca.cell
  clear h
  go_enter Try.func60, Try.ntmps60
  go_wp2_with fail
  go_ret
  exact ⟨by first | rfl | (simp; done), rfl⟩
def TakerEnd (A : Option Addr) (L : List Int) (c : Nat) (w : World) (e : Ending) (w' : World) : Prop :=
  e = .returned (.tuple #[.func (.func 59) #[] #[.pointer (some ⟨w.heap.size, 0, none⟩), .pointer (some ⟨w.heap.size + 1, 0, none⟩)], .func (.func 60) #[] #[.pointer (some ⟨w.heap.size + 1, 0, none⟩), .pointer (some ⟨w.heap.size, 0, none⟩)]]) ∧ Below w.heap.size w w' ∧ w'.heap.size = w.heap.size + 2 ∧ TkAt w' w.heap.size (w.heap.size + 1) A L c 0
theorem taker_any (A : Option Addr) (L : List Int) (c : Nat) (w : World) (h : LieQ byV 1 w (· < w.heap.size) A L) :
    Calls Try.prog 41 #[.slice A L.length c] w (TakerEnd A L c w) := by
  have hmf : ∀ (fn : Fn) (first cap : Array Value) (w : World), (Instr.makeFunc fn first cap).run Try.prog w = .ok (.func fn first cap) w := fun _ _ _ _ => rfl
  have HL := hidd h
  have HTK := hidd (show TkAt ((w.alloc (.cells #[.slice A L.length c] 25)).alloc (.cells #[.int .i64 0] 3)) w.heap.size (w.heap.size + 1) A L c 0 from
    ⟨by simp [go_sem], by have q := Boxed.new (w.alloc (.cells #[.slice A L.length c] 25)) 3 (.int .i64 0); simpa using q, h.to (fun k hk => ⟨⟨by omega, by simp; omega⟩, by rw [Below.heap_alloc _ _ _ (by simp; omega), Below.heap_alloc _ _ _ hk]⟩), by simp; omega, by omega⟩)
  clear h
  go_enter Try.func41, Try.ntmps41
  go_wp2_with fail
  go_ret2
  exact ⟨rfl, by (repeat' (first | (with_reducible exact Below.refl _ _) | (with_reducible assumption) | (with_reducible apply Below.setCell) | (with_reducible apply Below.alloc) | (with_reducible apply Below.drew) | (with_reducible apply below_drewN) | (with_reducible refine Below.trans ?_ (Below.mono (by assumption) ?_)) | omega | (simp; done) | (simp; omega))), by simp, HTK.out⟩
end Go.Proofs.Ytnneolkedekfbaa
