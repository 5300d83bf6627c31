/- Sums: the program's New, Sum, Write, Copy, Right, Patch. -/
import Derived.Test.YtmpiobpgjlceaaaCkE
namespace Go.Proofs.Ytmpiobpgjlceaaa
set_option linter.unusedVariables false
open Go.RowKit

theorem New_any (w : World) : Calls Try.prog 12 #[] w fun e w' => e = .returned (.pointer (some ⟨w.heap.size, 0, none⟩)) ∧ w' = w.alloc (.cells #[.int .u8 0, .bool false, .int .u16 0, .bool true] 51) := by
  go_enter Try.func12, Try.ntmps12
  go_wp2_with fail
  go_ret
  exact ⟨rfl, rfl⟩
theorem new_at (w : World) (t : TypeId) : AdderAt (w.alloc (.cells #[.int .u8 0, .bool false, .int .u16 0, .bool true] t)) w.heap.size st0 :=
  ⟨by simp, by simp [go_sem, st0], by simp [go_sem, st0], by simp [go_sem, st0], by simp [go_sem], by simp [go_sem], by simp [go_sem], by simp [go_sem]⟩
theorem xor16 {x : Int} (h : W16 x) : bits .xor .u16 IntKind.u16.max x = 65535 - x := by
  obtain ⟨h0, h1⟩ := h
  obtain ⟨n, rfl⟩ := Int.eq_ofNat_of_zero_le h0
  have e : (BitVec.ofInt 16 65535) = BitVec.allOnes 16 := by decide
  have hm : IntKind.u16.max = 65535 := rfl
  simp only [bits, hm]
  rw [show IntKind.u16.bits = 16 from rfl, e]
  simp only [BitVec.ofInt_natCast, BitVec.allOnes_xor, BitVec.toNat_not, BitVec.toNat_ofNat]
  rw [IntKind.wrap_u16]
  have : n % 2 ^ 16 = n := Nat.mod_eq_of_lt (by omega)
  rw [this]
  omega
theorem unsigned16 : IntKind.u16.signed = false := rfl
set_option maxHeartbeats 1000000 in
theorem AdderSum_any (b : Nat) (s : St) (hs : s.ok) (w : World) (hA : AdderAt w b s) : Calls Try.prog 18 #[.pointer (some ⟨b, 0, none⟩)] w fun e w' => e = .returned (.int .u16 (fin s)) ∧ ∃ n, w' = w.drewN n := by
  obtain ⟨h0, h1, h2, h3⟩ := hs
  have ci := hidd (fun W h => isNone_any b true W h)
  have cf := hidd (fun W h => filled_any ⟨b, 0, none⟩ s.hi h0 h1 W h)
  have ct := hidd (fun W => together_any s.all (256 * s.hi) h2 ⟨by omega, by omega⟩ W)
  have hw : W16 (put s.all (256 * s.hi)) := put_w h2 ⟨by omega, by omega⟩
  have hx := xor16 hw
  have hsg := unsigned16
  have hf : fin s = 65535 - put s.all (256 * s.hi) := rfl
  rw [hf]
  obtain ⟨_, c0, c1, c2, c3, _, _, _⟩ := hA
  clear hf hw h3 h2
  generalize put s.all (256 * s.hi) = p at *
  generalize 256 * s.hi = q at *
  generalize s.all = a at *
  generalize s.hi = h at *
  clear h0 h1
  go_enter Try.func18, Try.ntmps18
  go_wp2_with fail
  refine (ci.out _ c3).mono ?_
  rintro e w1 ⟨rfl, rfl⟩
  go_wp2_with fail
  go_region_with (first | (go_at_call 29; refine (cf.out _ (by first | exact c0 | simpa using c0)).mono ?_; rintro e w1 ⟨rfl, rfl⟩) | (go_at_call 28; refine (ct.out _).mono ?_; rintro e w1 ⟨rfl, rfl⟩))
  all_goals go_wp2_with fail
  all_goals go_ret
  all_goals exact ⟨rfl, 1, rfl⟩
set_option maxHeartbeats 1000000 in
theorem Patch_any (s a b : Int) (hs : W16 s) (ha : W16 a) (hb : W16 b) (w : World) : Calls Try.prog 22 #[.int .u16 s, .int .u16 a, .int .u16 b] w fun e w' => e = .returned (.int .u16 (65535 - put (put (65535 - s) (65535 - a)) b)) ∧ w = w' := by
  have hs' : W16 (65535 - s) := by unfold W16 at *; omega
  have ha' : W16 (65535 - a) := by unfold W16 at *; omega
  have c1 := hidd (fun W => together_any _ _ hs' ha' W)
  have c2 := hidd (fun W => together_any _ _ (put_w hs' ha') hb W)
  have x1 := xor16 hs
  have hsg := unsigned16
  have x2 := xor16 ha
  have x3 := xor16 (put_w (put_w hs' ha') hb)
  clear hs ha hb hs' ha'
  generalize put (put (65535 - s) (65535 - a)) b = r at *
  generalize put (65535 - s) (65535 - a) = q at *
  go_enter Try.func22, Try.ntmps22
  go_wp2_with fail
  refine (c1.out _).mono ?_
  rintro e w1 ⟨rfl, rfl⟩
  go_wp2_with fail
  refine (c2.out _).mono ?_
  rintro e w1 ⟨rfl, rfl⟩
  go_wp2_with fail
  go_ret
  exact ⟨rfl, rfl⟩
theorem drewN_below {w w' : World} (h : ∃ n, w' = w.drewN n) : Below w.heap.size w w' := by
  obtain ⟨n, rfl⟩ := h
  exact below_drewN (Below.refl _ _) n
set_option maxHeartbeats 1000000 in
theorem Sum_any (A : Option Addr) (k : Nat) (cs : List Part) (hlen : cs.length ≤ 1000000) (hlen2 : ∀ c ∈ cs, c.2.length ≤ 1000000) (hby : Bytes (allBytes cs)) (w : World) (hP : Parts w (· < w.heap.size) A cs) :
    Calls Try.prog 17 #[.slice A cs.length k] w fun e w' => e = .returned (.int .u16 (sumR (allBytes cs))) ∧ Below w.heap.size w w' := by
  have cn := hidd (fun W => New_any W)
  have ca := hidd (fun b W hA hP => add_any b st0 st0_ok A k cs hlen hlen2 hby W hA hP)
  have cs' := hidd (fun b W hA => AdderSum_any b _ (feedAll_ok st0_ok hby) W hA)
  rw [fin_sum _ hby] at cs'
  have HP := hidd hP
  clear hP hlen hlen2 hby
  generalize feedAll st0 (allBytes cs) = s at *
  generalize sumR (allBytes cs) = r at *
  generalize hn : cs.length = n at *
  go_enter Try.func17, Try.ntmps17
  go_wp2_with fail
  refine (cn.out _).mono ?_
  rintro e w1 ⟨rfl, rfl⟩
  go_wp2_with fail
  refine (ca.out _ _ (new_at _ _) (HP.out.to (fun j hj => ⟨by simp; omega, Below.heap_alloc _ _ _ hj⟩))).mono ?_
  rintro e w2 ⟨rfl, hA2, hB2⟩
  have HA2 := hidd hA2
  have hL : Below w.heap.size w w2 := (below_new (Below.refl w.heap.size w) _).trans (hB2.below (Nat.le_refl _) (by simp))
  have HL := hidd hL
  clear hA2 hB2 hL
  go_wp2_with fail
  refine (cs'.out _ _ HA2.out).mono ?_
  rintro e w3 ⟨rfl, hd⟩
  have HL3 := hidd (below_step HL.out (drewN_below hd))
  clear hd
  go_wp2_with fail
  go_ret
  exact ⟨rfl, HL3.out⟩
theorem one_part {W : World} {b : Nat} {A : Option Addr} {c : Nat} {l : List Int} {p : Nat → Prop} (hc : W.cell? ⟨b, 0, none⟩ = some (.slice A l.length c)) (hb : p b) (hl : LieQ byV 1 W p A l) : Parts W p (some ⟨b, 0, none⟩) [(.slice A l.length c, l)] := by
  refine ⟨fun _ => ⟨_, rfl, hb, fun i x hx j v hv => ?_⟩, fun q hq => ?_⟩
  · match i, hx with
    | 0, hx =>
      simp at hx; subst hx
      match j, hv with
      | 0, hv => simp [paV] at hv; subst hv; simpa [Addr.add] using hc
      | j + 1, hv => simp [paV] at hv
    | i + 1, hx => simp at hx
  · have : q = (.slice A l.length c, l) := by simpa using hq
    subst this
    exact ⟨A, c, rfl, hl⟩
theorem all_one (v : Value) (l : List Int) : allBytes [(v, l)] = l := by simp [allBytes]
theorem sum1_any (b : Nat) (A : Option Addr) (l : List Int) (c : Nat) (hlen : l.length ≤ 1000000) (hby : Bytes l) (w : World) (hc : w.cell? ⟨b, 0, none⟩ = some (.slice A l.length c)) (hb : b < w.heap.size) (hl : LieQ byV 1 w (· < w.heap.size) A l) :
    Calls Try.prog 17 #[.slice (some ⟨b, 0, none⟩) 1 1] w fun e w' => e = .returned (.int .u16 (sumR l)) ∧ Below w.heap.size w w' := by
  have h := Sum_any (some ⟨b, 0, none⟩) 1 [(.slice A l.length c, l)] (by simp) (by simpa using hlen) (by rwa [all_one]) w (one_part hc hb hl)
  rw [all_one] at h
  exact h
set_option maxHeartbeats 1000000 in
theorem Right_any (A : Option Addr) (l : List Int) (c : Nat) (hlen : l.length ≤ 1000000) (hby : Bytes l) (w : World) (hl : Lie byV 1 w w.heap.size A l) :
    Calls Try.prog 19 #[.slice A l.length c] w fun e w' => e = .returned (.bool (sumR l == 0)) ∧ Below w.heap.size w w' := by
  have c1 := hidd (fun b W h1 h2 h3 => sum1_any b A l c hlen hby W h1 h2 h3)
  have HL := hidd hl
  clear hl hlen hby
  generalize sumR l = r at *
  go_enter Try.func19, Try.ntmps19
  go_wp2_with fail
  refine (c1.out _ _ (by simp [go_sem]) (by simp) (((HL.out.keep (below_new (Below.refl _ _) _)).q (fun k hk => by simp; omega)))).mono ?_
  rintro e w1 ⟨rfl, hb⟩
  have L := below_step (below_new (Below.refl w.heap.size w) _) hb
  go_wp2_with fail
  go_ret
  exact ⟨rfl, L⟩
set_option maxHeartbeats 1000000 in
theorem Write_any (b : Nat) (s : St) (hs : s.ok) (A : Option Addr) (l : List Int) (c : Nat) (hlen : l.length ≤ 1000000) (hby : Bytes l) (w : World) (hA : AdderAt w b s) (hl : LieQ byV 1 w (fun j => j < w.heap.size ∧ j ≠ b) A l) :
    Calls Try.prog 16 #[.pointer (some ⟨b, 0, none⟩), .slice A l.length c] w fun e w' => e = .returned (.int .i64 0) ∧ AdderAt w' b (feedAll s l) ∧ But b w w' := by
  have ci := hidd (fun W h => isNone_any b true W h)
  have ca := hidd (fun B W h1 h2 h3 h4 => add_any b s hs (some ⟨B, 0, none⟩) 1 [(.slice A l.length c, l)] (by simp) (by simpa using hlen) (by rwa [all_one]) W h1 (one_part (b := B) h2 h3 h4))
  rw [all_one] at ca
  have HA := hidd hA
  have HL := hidd hl
  have hb := hA.lt
  have c3 := hA.c3
  clear hA hl hlen hby hs
  generalize feedAll s l = t at *
  go_enter Try.func16, Try.ntmps16
  go_wp2_with fail
  refine (ci.out _ c3).mono ?_
  rintro e w1 ⟨rfl, rfl⟩
  go_wp2_with fail
  refine (ca.out _ _ (HA.out.below (below_new (Below.refl _ _) _)) (by simp [go_sem]) ⟨by simp, by omega⟩ (HL.out.to (fun j hj => ⟨⟨by simp; omega, hj.2⟩, Below.heap_alloc _ _ _ hj.1⟩))).mono ?_
  rintro e w2 ⟨rfl, hA2, hB2⟩
  have L := (below_but (below_new (Below.refl w.heap.size w) _) b).trans hB2
  go_wp2_with fail
  go_ret
  exact ⟨rfl, hA2, L⟩
set_option maxHeartbeats 1000000 in
theorem Copy_any (b : Nat) (s : St) (w : World) (hA : AdderAt w b s) :
    Calls Try.prog 13 #[.pointer (some ⟨b, 0, none⟩)] w fun e w' => e = .returned (.pointer (some ⟨w.heap.size, 0, none⟩)) ∧ AdderAt w' w.heap.size s ∧ Below w.heap.size w w' := by
  have ci := hidd (fun W h => isNone_any b true W h)
  obtain ⟨hb, c0, c1, c2, c3, _, _, _⟩ := hA
  go_enter Try.func13, Try.ntmps13
  go_wp2_with fail
  refine (ci.out _ c3).mono ?_
  rintro e w1 ⟨rfl, rfl⟩
  go_wp2_with fail
  go_ret
  exact ⟨rfl, ⟨by simp, by simp [go_sem], by simp [go_sem], by simp [go_sem], by simp [go_sem], by simp [go_sem], by simp [go_sem], by simp [go_sem]⟩, below_new (Below.refl _ _) _⟩
end Go.Proofs.Ytmpiobpgjlceaaa
