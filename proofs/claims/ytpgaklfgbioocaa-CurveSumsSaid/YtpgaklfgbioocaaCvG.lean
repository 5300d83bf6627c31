/- Curves: all their lines, one by one (an iterator). -/
import Derived.RangeFuncNested
import Derived.RangeFuncBound
import Derived.RangeFuncCalls
import Derived.RangeFuncLeaves
import Derived.RangeFuncBox
import Derived.Shelf.Abstract
import Derived.Shelf.RegionOpen
import Derived.WalkKit
import Derived.OwnWalkIn
import Derived.TacticsInMore
import Derived.LoopNIn
import Derived.LoopIn
import Derived.Test.YtpgaklfgbioocaaCvF
namespace Go.Proofs.Ytpgaklfgbioocaa
set_option linter.unusedVariables false
open Go.RowKit RowK Go.Shelf
attribute [local go_sem] Oper.semAt_some

abbrev Crv := Value × List (Int × Int)
def curV (c : Crv) : List Value := [c.1]
/-- the slice holds the lines. -/
def HeldC (W : World) (B : Nat) (c : Crv) : Prop := ∃ A k, c.1 = .slice A c.2.length k ∧ Lie sendV 2 W B A c.2
def Curves (W : World) (B : Nat) (A : Option Addr) (cs : List Crv) : Prop := Lie curV 1 W B A cs ∧ ∀ c ∈ cs, HeldC W B c
theorem HeldC.keep {W W' : World} {B : Nat} {c : Crv} (h : HeldC W B c) (hb : Below B W W') : HeldC W' B c := by
  obtain ⟨A, k, e, hl⟩ := h
  exact ⟨A, k, e, hl.keep hb⟩
theorem Curves.keep {W W' : World} {B : Nat} {A : Option Addr} {cs : List Crv} (h : Curves W B A cs) (hb : Below B W W') : Curves W' B A cs :=
  ⟨h.1.keep hb, fun c hc => (h.2 c hc).keep hb⟩
theorem Curves.more {W : World} {B B' : Nat} {A : Option Addr} {cs : List Crv} (h : Curves W B A cs) (hb : B ≤ B') : Curves W B' A cs :=
  ⟨h.1.more hb, fun c hc => by obtain ⟨A, k, e, hl⟩ := h.2 c hc; exact ⟨A, k, e, hl.more hb⟩⟩
theorem Curves.at_ {W : World} {B : Nat} {A : Option Addr} {cs : List Crv} (h : Curves W B A cs) (i : Nat) (hi : i < cs.length) : ∃ ad, A = some ad ∧ ad.block < B ∧ W.cell? (ad.add i) = some cs[i].1 := by
  obtain ⟨ad, e, hb, hc⟩ := h.1 (by omega)
  refine ⟨ad, e, hb, ?_⟩
  have := hc i cs[i] (by simp [hi]) 0 cs[i].1 rfl
  simpa using this
def allLines (cs : List Crv) : List (Int × Int) := cs.flatMap (·.2)
theorem allLines_take {cs : List Crv} {k : Nat} (h : k < cs.length) : allLines (cs.take (k + 1)) = allLines (cs.take k) ++ cs[k].2 := by
  unfold allLines
  rw [List.take_add_one, List.getElem?_eq_getElem h, List.flatMap_append]; simp
theorem allLines_prefix (cs : List Crv) (k : Nat) : allLines (cs.take k) <+: allLines cs := by
  unfold allLines
  conv => rhs; rw [← List.take_append_drop k cs, List.flatMap_append]
  exact List.prefix_append _ _
theorem take_one {L : List (Int × Int)} {m : Nat} (h : m < L.length) : L.take (m + 1) = L.take m ++ [(SM.av L m, SM.sv L m)] := by
  rw [List.take_add_one, List.getElem?_eq_getElem h, ← (av_at h).1, ← (av_at h).2]; rfl
theorem part_prefix {cs : List Crv} {k : Nat} (h : k < cs.length) (m : Nat) : allLines (cs.take k) ++ cs[k].2.take m <+: allLines cs := by
  refine List.IsPrefix.trans ?_ (allLines_prefix cs (k + 1))
  rw [allLines_take h]
  exact (List.prefix_append_right_inj _).2 (List.take_prefix _ _)
theorem part_lt {cs : List Crv} {k : Nat} (h : k < cs.length) {m : Nat} (hm : m < cs[k].2.length) : (allLines (cs.take k) ++ cs[k].2.take m).length < (allLines cs).length := by
  have h1 := (part_prefix h (m + 1)).length_le
  simp only [List.length_append, List.length_take] at *
  omega

set_option maxRecDepth 100000 in
set_option maxHeartbeats 4000000 in
theorem joined1_in (F : Fence) (n : Nat) (h61 : F.fn 49) (hro : F.round = none) (hn : 1 ≤ n) (l Bs n₀ : Nat) (A : Option Addr) (k : Nat) (cs : List Crv) (hlen : cs.length ≤ 1000000) (hlen2 : ∀ c ∈ cs, c.2.length ≤ 1000000) (J Jx : List (Int × Int) → World → Prop)
    (W : World) (hn0 : n₀ ≤ W.heap.size) (hJ : AbidesFrom W.heap.size J)
    (hY : ∀ pre x W, J pre W → pre.length < (allLines cs).length → YieldAt F (n - 1) Try.prog l #[.agg #[.int .i64 x.1, .int .i64 x.2]] W fun e W' =>
      (e = .returned (.bool true) ∧ J (pre ++ [x]) W' ∧ Below n₀ W W') ∨ (e = .returned (.bool false) ∧ Jx (pre ++ [x]) W'))
    (hBs : W.cell? ⟨Bs, 0, none⟩ = some (.slice A cs.length k)) (hC : Curves W n₀ A cs) (h0 : J [] W) :
    CallsIn F n Try.prog 49 #[.func (.yield l) #[] #[], .pointer (some ⟨Bs, 0, none⟩)] W fun e W' => (∃ v, e = .returned v) ∧
      ((∃ ys, ys = allLines cs ∧ J ys W') ∨ (∃ pre, pre <+: allLines cs ∧ Jx pre W')) := by
  have HC := hidd hC
  clear hC
  refine callsIn_of_wp Try.func49 rfl h61 ?_ hro
  simp only [Try.ntmps49, List.size_toArray, List.length_cons, List.length_nil, Nat.reduceAdd, Nat.reduceSub, Array.replicate_succ, Array.replicate_zero, List.push_toArray, List.append_toArray, List.nil_append, List.cons_append]
  gi_wp2
  gi_loopw [9] (fun i wr => ∃ q : Nat, q ≤ cs.length ∧ i = .int .i64 q ∧ J (allLines (cs.take q)) wr ∧ Below n₀ W wr)
    (fun i _ => cs.length - (intOf i).toNat)
  case atStart => exact ⟨0, Nat.zero_le _, rfl, h0, Below.refl _ _⟩
  case round =>
    obtain ⟨q, hq, rfl, hJs, hnx⟩ := hrel
    by_cases hlt : q < cs.length
    · obtain ⟨ad, rfl, hab, hcell⟩ := (HC.out.keep hnx).at_ q hlt
      obtain ⟨A2, k2, he2, hl2⟩ := HC.out.2 cs[q] (List.getElem_mem hlt)
      rw [he2] at hcell
      have HL2 := hidd hl2
      have hL := hlen2 cs[q] (List.getElem_mem hlt)
      have HT := hidd (allLines_take hlt)
      have HP := hidd (fun m => part_prefix hlt m)
      have HPL := hidd (fun m h => part_lt hlt (m := m) h)
      clear hl2 he2
      generalize cs[q].2 = L at *
      have hq2 : (q : Int) < (cs.length : Int) := by omega
      gi_wp2
      obtain ⟨wo, hwo⟩ : ∃ wo : World, wo = wr := ⟨_, rfl⟩
      gi_loopw [15] (fun j wx => ∃ m : Nat, m ≤ L.length ∧ j = .int .i64 m ∧ J (allLines (cs.take q) ++ L.take m) wx ∧ Below n₀ W wx)
        (fun j _ => L.length - (intOf j).toNat)
      case atStart => exact ⟨0, Nat.zero_le _, rfl, by simpa using hJs, hnx⟩
      case round =>
        obtain ⟨m, hm, rfl, hJm, hmx⟩ := hrel
        by_cases hlm : m < L.length
        · have hm2 : (m : Int) < (L.length : Int) := by omega
          obtain ⟨bd, rfl, hbb, x0, x1⟩ := (HL2.out.keep hmx).send m hlm
          rw [(av_at hlm).1] at x0
          rw [(av_at hlm).2] at x1
          have HT1 := hidd (take_one hlm)
          have hJa : J (allLines (cs.take q) ++ L.take m) (wr.alloc (.cells #[.int .i64 (SM.av L m), .int .i64 (SM.sv L m)] 44)) := hJ _ _ _ none hJm (World.grownBy_alloc _ _ _) (by simp)
          obtain ⟨fn, tmps, assign, body, hy, hR⟩ := hY _ (SM.av L m, SM.sv L m) _ hJa (HPL.out m hlm)
          dsimp only at hy
          generalize SM.av L m = a0 at *
          generalize SM.sv L m = a1 at *
          gi_wp2
          refine hR.mono ?_
          rintro e W3 (⟨rfl, hJ3, hk3⟩ | ⟨rfl, hJx3⟩)
          · gi_wp2
            go_roundw
            case rel => exact ⟨m + 1, by omega, by simp, by rw [HT1.out, ← List.append_assoc]; exact hJ3, (hmx.alloc (by have := hmx.size; omega) _).trans hk3⟩
            case measure => simp [intOf]; omega
          · gi_wp2
            refine bodyPost_ret (results_none rfl _ _ _) rfl ?_
            exact ⟨⟨_, rfl⟩, .inr ⟨_, by rw [List.append_assoc, ← HT1.out]; exact HP.out (m + 1), hJx3⟩⟩
        · obtain rfl : m = L.length := by omega
          gi_wp2
          go_roundw
          case rel => exact ⟨q + 1, by omega, by simp, by rw [HT.out]; simpa using hJm, hmx⟩
          case measure => simp [intOf]; omega
    · obtain rfl : q = cs.length := by omega
      gi_wp2
      go_end0
      exact ⟨⟨_, rfl⟩, .inl ⟨_, by rw [List.take_length], hJs⟩⟩
end Go.Proofs.Ytpgaklfgbioocaa
