/- Sums under way: all pairs of what was left and of the parts behind it (an iterator that keeps what is left). -/
import Derived.Test.YtmpiobpgjlceaaaCkC
namespace Go.Proofs.Ytmpiobpgjlceaaa
set_option linter.unusedVariables false
open Go.RowKit Go.Shelf
attribute [local go_sem] Oper.semAt_some

/-- what the iterator tells of bytes, and what is left of them. -/
abbrev Hf := Int × Bool
def pass (q : Hf × List Int) (x : Int) : Hf × List Int := if q.1.2 then ((0, false), q.2 ++ [256 * q.1.1 + x]) else ((x, true), q.2)
def passAll (h : Hf) (l : List Int) : Hf × List Int := l.foldl pass (h, [])
theorem passAll_snoc (h : Hf) (l : List Int) (x : Int) : passAll h (l ++ [x]) = pass (passAll h l) x := by simp [passAll]
def HfOk (h : Hf) : Prop := 0 ≤ h.1 ∧ h.1 ≤ 255 ∧ (h.2 = false → h.1 = 0)
theorem pass_ok {q : Hf × List Int} {x : Int} (h : HfOk q.1) (hx : 0 ≤ x ∧ x ≤ 255) : HfOk (pass q x).1 := by
  unfold pass
  split
  · exact ⟨by simp, by simp, fun _ => rfl⟩
  · exact ⟨hx.1, hx.2, fun h => by cases h⟩
theorem passAll_ok : ∀ {l : List Int} {q : Hf × List Int}, HfOk q.1 → Bytes l → HfOk (l.foldl pass q).1
  | [], _, h, _ => h
  | x :: l, _, h, hb => passAll_ok (l := l) (pass_ok h (hb x (by simp))) (fun y hy => hb y (by simp [hy]))
/-- the Adder's two cells of what is left, and the iterator's own stores. -/
def halfT (b : Nat) (h : Hf) (X : World) : World := (X.setCell ⟨b, 0, none⟩ (.int .u8 h.1)).setCell ⟨b, 1, none⟩ (.bool h.2)
structure Reads (b : Nat) (n₀ : Nat → Prop) (Bp Bh : Nat) (A : Option Addr) (k : Nat) (cs : List Part) (h : Hf) (W : World) : Prop where
  c0 : W.cell? ⟨b, 0, none⟩ = some (.int .u8 h.1)
  c1 : W.cell? ⟨b, 1, none⟩ = some (.bool h.2)
  f0 : W.frozen? ⟨b, 0, none⟩ = false
  f1 : W.frozen? ⟨b, 1, none⟩ = false
  hp : W.cell? ⟨Bp, 0, none⟩ = some (.slice A cs.length k)
  hh : W.cell? ⟨Bh, 0, none⟩ = some (.pointer (some ⟨b, 0, none⟩))
  ps : Parts W n₀ A cs

set_option maxRecDepth 100000 in
set_option maxHeartbeats 4000000 in
theorem pairs1_in (n : Nat) (hn : 1 ≤ n) (b : Nat) (n₀ : Nat → Prop) (Bp Bh : Nat) (A : Option Addr) (k : Nat) (cs : List Part) (hlen : cs.length ≤ 1000000) (hlen2 : ∀ c ∈ cs, c.2.length ≤ 1000000) (hby : Bytes (allBytes cs)) (h0 : Hf) (hok : HfOk h0)
    (I : Hf → List Int → World → Prop) (hI : ∀ h pre W, I h pre W → Reads b n₀ Bp Bh A k cs h W) :
    SeqState Fence.wide n Try.prog 33 #[.pointer (some ⟨Bp, 0, none⟩), .pointer (some ⟨Bh, 0, none⟩)] (fun x : Int => #[Value.int .u16 x]) W16 (halfT b) I h0 (passAll h0 (allBytes cs)).1 (passAll h0 (allBytes cs)).2 := by
  intro l J W hJT hJI hY hJ0
  have HI := hidd hI
  have HJT := hidd hJT
  have HJI := hidd hJI
  have HY := hidd hY
  have HB := hidd hby
  have HK := hidd hok
  have HL2 := hidd hlen2
  clear hI hJT hJI hY hby hok hlen2
  refine callsIn_of_wp Try.func33 rfl trivial ?_ rfl
  simp only [Try.ntmps33, List.size_toArray, List.length_cons, List.length_nil, Nat.reduceAdd, Nat.reduceSub, Array.replicate_succ, Array.replicate_zero, List.push_toArray, List.append_toArray, List.nil_append, List.cons_append]
  have hp0 := (HI.out _ _ _ (HJI.out _ _ _ hJ0)).hp
  have HJ0 := hidd hJ0
  clear hJ0
  gi_wp2
  gi_loopw [11] (fun i wr => ∃ q : Nat, q ≤ cs.length ∧ i = .int .i64 q ∧ J (passAll h0 (allBytes (cs.take q))).1 (passAll h0 (allBytes (cs.take q))).2 wr)
    (fun i _ => cs.length - (intOf i).toNat)
  case atStart => exact ⟨0, Nat.zero_le _, rfl, HJ0.out⟩
  case round =>
    obtain ⟨q, hq, rfl, hJs⟩ := hrel
    have HJs := hidd hJs
    clear hJs
    by_cases hlt : q < cs.length
    · have hR := HI.out _ _ _ (HJI.out _ _ _ HJs.out)
      obtain ⟨ad, rfl, hab, hcell⟩ := hR.ps.at_ q hlt
      obtain ⟨A2, k2, he2, hl2⟩ := hR.ps.2 cs[q] (List.getElem_mem hlt)
      rw [he2] at hcell
      have hL := HL2.out cs[q] (List.getElem_mem hlt)
      have HT := hidd (allBytes_take hlt)
      have hbL : Bytes cs[q].2 := fun x hx => HB.out x (by unfold allBytes; exact List.mem_flatMap.2 ⟨_, List.getElem_mem hlt, hx⟩)
      have HBL := hidd hbL
      have HP := hidd (fun W h pre (hj : J h pre W) => (show LieQ byV 1 W n₀ A2 cs[q].2 from by
        obtain ⟨A3, k3, e3, l3⟩ := (HI.out _ _ _ (HJI.out _ _ _ hj)).ps.2 cs[q] (List.getElem_mem hlt)
        rw [he2] at e3
        cases e3
        exact l3))
      have hbP : Bytes (allBytes (cs.take q)) := fun x hx => HB.out x (by
        unfold allBytes at *
        obtain ⟨c, hc, hx⟩ := List.mem_flatMap.1 hx
        exact List.mem_flatMap.2 ⟨c, List.mem_of_mem_take hc, hx⟩)
      have HBP := hidd hbP
      have hq2 : (q : Int) < (cs.length : Int) := by omega
      clear hbL hbP hR hl2 he2
      generalize cs[q].2 = L at *
      generalize allBytes (cs.take q) = Z at *
      gi_wp2
      gi_loopw [17] (fun j wx => ∃ m : Nat, m ≤ L.length ∧ j = .int .i64 m ∧ J (passAll h0 (Z ++ L.take m)).1 (passAll h0 (Z ++ L.take m)).2 wx)
        (fun j _ => L.length - (intOf j).toNat)
      case atStart => exact ⟨0, Nat.zero_le _, rfl, by simpa using HJs.out⟩
      case round =>
        obtain ⟨m, hm, rfl, hJm⟩ := hrel
        by_cases hlm : m < L.length
        · have hm2 : (m : Int) < (L.length : Int) := by omega
          obtain ⟨bd, rfl, hbb, x0⟩ := (HP.out _ _ _ hJm).byte m hlm
          obtain ⟨b0, b1⟩ := HBL.out _ (av_mem hlm)
          have hst : passAll h0 (Z ++ L.take (m + 1)) = pass (passAll h0 (Z ++ L.take m)) (av L m) := by
            rw [take_oneB hlm, ← List.append_assoc, passAll_snoc]
          have hbZ : Bytes (Z ++ L.take m) := fun x hx => by
            rcases List.mem_append.1 hx with h | h
            · exact HBP.out x h
            · exact HBL.out x (List.mem_of_mem_take h)
          have hokm : HfOk (passAll h0 (Z ++ L.take m)).1 := passAll_ok (q := (h0, [])) HK.out hbZ
          have HST := hidd hst
          clear hst hbZ
          generalize passAll h0 (Z ++ L.take m) = T0 at *
          obtain ⟨⟨hi, g⟩, pre⟩ := T0
          obtain ⟨k0, k1, k2'⟩ := hokm
          dsimp only at hJm k0 k1 k2'
          obtain ⟨c0, c1, f0, f1, _, ch, _⟩ := HI.out _ _ _ (HJI.out _ _ _ hJm)
          dsimp only at c0 c1
          generalize av L m = x at *
          cases g
          · have hJn := HJT.out _ (x, true) _ _ hJm
            have HST2 : Hid (passAll h0 (Z ++ L.take (m + 1)) = ((x, true), pre)) := hidd (by rw [HST.out]; rfl)
            have HJn := hidd hJn
            clear hJn hJm HST k2'
            gi_wp2
            go_roundw
            case rel => exact ⟨m + 1, by omega, by simp, by rw [HST2.out]; exact HJn.out⟩
            case measure => simp [intOf]; omega
          · have hJn := HJT.out _ (0, false) _ _ hJm
            have hor : bits .or .u16 (256 * hi) x = 256 * hi + x := bits_join .u16 16 (by decide) (fun n h0 h1 => by rw [IntKind.wrap_u16]; omega) 8 _ _ (by omega) (by omega) (by omega) (by omega) (by omega) (by omega)
            have HST2 : Hid (passAll h0 (Z ++ L.take (m + 1)) = ((0, false), pre ++ [256 * hi + x])) := hidd (by rw [HST.out]; rfl)
            obtain ⟨fn, tmps, assign, body, hy, hR⟩ := HY.out _ _ (256 * hi + x) _ ⟨by omega, by omega⟩ hJn
            clear hJn hJm HST k2'
            unfold halfT at hy hR
            dsimp only at hy
            generalize 256 * hi + x = p at *
            gi_wp2_with (refine ⟨trivial, ?_⟩; gi_at_call 29; refine (callsIn_wide.2 (filled_any _ hi k0 k1 _ c0)).mono ?_; rintro e w1 ⟨rfl, rfl⟩)
            refine hR.mono ?_
            rintro e W3 ⟨rfl, hJ3⟩
            gi_wp2
            go_roundw
            case rel => exact ⟨m + 1, by omega, by simp, by rw [HST2.out]; exact hJ3⟩
            case measure => simp [intOf]; omega
        · obtain rfl : m = L.length := by omega
          rw [List.take_length, ← HT.out] at hJm
          gi_wp2
          go_roundw
          case rel => exact ⟨q + 1, by omega, by simp, hJm⟩
          case measure => simp [intOf]; omega
    · obtain rfl : q = cs.length := by omega
      gi_wp2
      go_end0
      exact ⟨⟨_, rfl⟩, by have := HJs.out; rwa [List.take_length] at this⟩
end Go.Proofs.Ytmpiobpgjlceaaa
