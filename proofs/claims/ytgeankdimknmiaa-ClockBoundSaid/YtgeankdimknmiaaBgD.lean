/- Quotients of numbers by their digits, bit by bit. -/
import Derived.Test.YtgeankdimknmiaaBgC
import Derived.Test.YtgeankdimknmiaaBgN
import Derived.OwnWalk
import Derived.RegionTactic
namespace Go.Proofs.Ytgeankdimknmiaa
set_option linter.unusedVariables false
open Go.RowKit

/-- a number's digits lie at a slice. -/
def BigAt (x : Nat) (w : World) (v : Value) : Prop := ∃ A c, v = .slice A (BM.digs x).length c ∧ (BM.digs x).length ≤ c ∧ c ≤ maxLen ∧ Lie dV 1 w w.heap.size A (BM.digs x)
theorem BigAt.below {x : Nat} {w w' : World} {v : Value} (h : BigAt x w v) (hb : Below w.heap.size w w') : BigAt x w' v := by
  obtain ⟨A, c, e, h1, h2, hl⟩ := h
  exact ⟨A, c, e, h1, h2, hl.below hb⟩
theorem BigAt.zero (w : World) : BigAt 0 w (.slice none 0 0) := ⟨none, 0, by rw [BM.digs_zero]; rfl, by rw [BM.digs_zero]; exact Nat.le_refl _, by simp [maxLen], by rw [BM.digs_zero]; exact Lie.nil⟩
theorem row_map (L : List Nat) : rowOf dV L = L.map (fun d : Nat => Value.int .u32 (d : Int)) := by
  induction L with
  | nil => rfl
  | cons x L ih =>
    rw [List.map_cons, ← ih]
    rfl
theorem row_set (L : List Nat) (j e : Nat) : rowOf dV (L.set j e) = (rowOf dV L).set j (.int .u32 (e : Int)) := by
  rw [row_map, row_map, List.map_set]
theorem row_zeros (n : Nat) : rowOf dV (List.replicate n 0) = (madeCells (Value.int .u32 0).cells (n * 1)).toList := by
  rw [row_map, List.map_replicate, Nat.mul_one]
  exact (toList_madeCells_one (.int .u32 0) n).symm
def DivEnd (x y : Nat) (w : World) (e : Ending) (w' : World) : Prop :=
  ∃ u v, e = .returned (.tuple #[u, v]) ∧ BigAt (x / y) w' u ∧ BigAt (x % y) w' v ∧ Below w.heap.size w w'
set_option maxRecDepth 100000 in
set_option maxHeartbeats 8000000 in
theorem div_big (x y : Nat) (hx : x < 65536 ^ 15) (hy : y < 65536 ^ 15) (hy0 : 0 < y) (A B : Option Addr) (c d n m : Nat) (hn : (BM.digs x).length = n) (hm : (BM.digs y).length = m) (w : World) (hA : Lie dV 1 w w.heap.size A (BM.digs x)) (hB : Lie dV 1 w w.heap.size B (BM.digs y)) :
    Calls Try.prog 40 #[.slice A n c, .slice B m d] w (DivEnd x y w) := by
  obtain ⟨i0, hi0, hz0, hz1, hz2⟩ := info_parts digInfo
  have HN := hidd hn
  have HM := hidd hm
  have HA := hidd hA
  have HB := hidd hB
  have HY := hidd hy
  have HY0 := hidd hy0
  have n16 : n ≤ 15 := by rw [← hn]; exact BM.len_le hx
  have hxl : x < 2 ^ (16 * n) := by
    have h1 := BM.valD_lt (BM.dig_digs x)
    rw [BM.valD_digs, hn] at h1
    rw [Nat.pow_mul]
    exact h1
  have HXL := hidd hxl
  have ct := hidd (fun A L c n hn hc hx W hl => trim_any A L c n hn hc hx W hl)
  have ca := hidd (fun x y hx hy A B c d n m hn hm W hA hB => add_big x y hx hy A B c d n m hn hm W hA hB)
  have cs := hidd (fun x y hx hyx A B c d n m hn hm W hA hB => sub_big x y hx hyx A B c d n m hn hm W hA hB)
  have cl := hidd (fun x y hx hy A B c d n m hn hm W hA hB => less_big x y hx hy A B c d n m hn hm W hA hB)
  have co := hidd (fun n hn W => of_any n hn W)
  clear hA hB hn hm hx hy hxl hy0
  go_enter Try.func40, Try.ntmps40
  go_wp2_with (at_make; refine wpList_make_full _ rfl (.tmp 11) (.tmp 11) _ rfl w.heap.size 99 i0 (.int .u32 0) 1 Try.underlying76 hi0 hz0 hz1 .i64 .i64 (n : Int) (n : Int) n rfl rfl rfl rfl (by rw [hz2]; omega) (by simp only [maxLen]; omega) (Nat.le_refl _) ?_; intro w0 hown0 hgrow0)
  have HO0 : Hid (OwnL dV 1 w0 w.heap.size 99 (.slice (some ⟨w.heap.size, 0, none⟩) n n) (List.replicate n 0)) := hidd (by unfold OwnL; rw [row_zeros, List.length_replicate]; exact hown0)
  have HB0 := hidd (Below.grown (Below.refl w.heap.size w) hgrow0 (Nat.le_refl _) (by intro k hk; cases hk))
  clear hown0 hgrow0
  go_wp2_with fail
  go_loopg [7, 8] (16 * n + 1) (fun g s7 s8 wr => ∃ (k : Nat) (i : Int) (Q : List Nat), k ≤ 16 * n ∧ k < g ∧ i + 1 = (k : Int) ∧ s8 = .int .i64 i ∧ BigAt (x / 2 ^ k % y) wr s7 ∧ Q.length = n ∧ BM.Dig Q ∧ BM.valD Q = x / 2 ^ k / y * 2 ^ k ∧ OwnL dV 1 wr w.heap.size 99 (.slice (some ⟨w.heap.size, 0, none⟩) n n) Q ∧ Below w.heap.size w wr)
  case atStart =>
    have e : x / 2 ^ (16 * n) = 0 := Nat.div_eq_of_lt HXL.out
    refine ⟨16 * n, _, List.replicate n 0, Nat.le_refl _, by omega, ?_, rfl, by rw [e, Nat.zero_mod]; exact BigAt.zero _, by simp, (BM.dig_zeros n).1, by rw [(BM.dig_zeros n).2, e]; simp, HO0.out, HB0.out⟩
    omega
  case round =>
    obtain ⟨k, i, Q, hk, hg, hi, rfl, hR, hQ, hdQ, hvQ, hO, hBl⟩ := hrel
    have HR := hidd hR
    have HQL := hidd hQ
    have HDQ := hidd hdQ
    have HVQ := hidd hvQ
    have HO := hidd hO
    have HBl := hidd hBl
    clear hR hQ hdQ hvQ hO hBl HB0 HO0
    cases k with
    | zero =>
      have hi0 : i < 0 := by omega
      obtain ⟨Ar, cr, rfl, hr1, hr2, hrl⟩ := HR.out
      have HRL := hidd hrl
      have e1 : BM.valD Q = x / y := by rw [HVQ.out]; simp
      have e2 : x / 2 ^ 0 % y = x % y := by simp
      have HE := hidd e1
      rw [e2] at HRL hr1
      rw [e2]
      have cta := hidd (ct.out (some ⟨w.heap.size, 0, none⟩) Q n n HQL.out (Nat.le_refl _) (by simp only [maxLen]; omega) wr (by
        obtain ⟨A', c', e, _, _, h⟩ := HO.out.lie dV_len
        have : A' = some ⟨w.heap.size, 0, none⟩ := by injection e with e; exact e.symm
        rw [this] at h; exact h))
      clear e1 e2 HR
      go_wp2_with fail
      refine cta.out.mono ?_
      rintro e w' ⟨rfl, rfl⟩
      go_wp2_with fail
      go_ret2
      have h1 := trim_end (A := some ⟨w.heap.size, 0, none⟩) (c := n) (by rw [HQL.out]; exact Nat.le_refl _) (by simp only [maxLen]; omega) HDQ.out HE.out (fun ad e => by injection e with e; subst e; exact Nat.le_refl _) (by
        obtain ⟨A', c', e, _, _, h⟩ := HO.out.lie dV_len
        have : A' = some ⟨w.heap.size, 0, none⟩ := by injection e with e; exact e.symm
        rw [this] at h; exact h) HBl.out
      obtain ⟨A', c', e, h2, h3, _, h4, h5⟩ := h1
      refine ⟨_, _, rfl, ⟨A', c', ?_, h2, h3, h4⟩, ⟨Ar, cr, rfl, hr1, hr2, HRL.out⟩, h5⟩
      injection e
    | succ t =>
      obtain rfl : i = (t : Int) := by omega
      obtain ⟨j, s, hjs, hs16⟩ : ∃ j s, t = 16 * j + s ∧ s < 16 := ⟨t / 16, t % 16, by omega, by omega⟩
      have hjn : j < n := by omega
      have hj1 : (t : Int) / 16 = (j : Int) := by omega
      have hs1 : (t : Int) % 16 = (s : Int) := by omega
      have ht0 : (0 : Int) ≤ (t : Int) := by omega
      have hjn2 : (j : Int) < (n : Int) := by omega
      have hbit := BM.bit_of (BM.dig_digs x) (j := j) (s := s) (by rw [HN.out]; exact hjn) hs16
      rw [BM.valD_digs, ← hjs] at hbit
      obtain ⟨hd0, hdlt, hdge⟩ := BM.div_bit x y t HY0.out
      rw [← hbit] at hdlt hdge hd0
      obtain ⟨ad, e', hadb, x0⟩ := (HA.out.below HBl.out).digit j (by rw [HN.out]; exact hjn)
      subst e'
      have hdl : BM.D (BM.digs x) j < 65536 := BM.D_lt (BM.dig_digs x) j
      obtain ⟨b, hb⟩ : ∃ b, BM.D (BM.digs x) j / 2 ^ s % 2 = b := ⟨_, rfl⟩
      have hb2 : b < 2 := by omega
      obtain ⟨sh, hsh⟩ : ∃ sh, BM.D (BM.digs x) j / 2 ^ s = sh := ⟨_, rfl⟩
      have hbj : ((BM.D (BM.digs x) j : Nat) : Int) / 2 ^ s = (sh : Int) := by rw [← hsh]; simp
      have hbi : (sh : Int) % 2 = (b : Int) := by rw [hsh] at hb; omega
      rw [hb] at hdlt hdge hd0 hbit
      obtain ⟨Ar, cr, rfl, hr1, hr2, hrl⟩ := HR.out
      have hRy : x / 2 ^ (t + 1) % y < y := Nat.mod_lt _ HY0.out
      have HBIT := hidd hbit
      have HDLT := hidd hdlt
      have HDGE := hidd hdge
      have HRL := hidd hrl
      generalize hR0 : x / 2 ^ (t + 1) % y = R at *
      have HR0 := hidd hR0
      have hR15 : R < 65536 ^ 15 := Nat.lt_trans hRy HY.out
      have p1 : R < 65536 ^ 16 := by omega
      have p2 : R + R < 65536 ^ 16 := by omega
      have p3 : R + R + b < 65536 ^ 16 := by omega
      have ca1 := hidd (fun W h => ca.out R R p1 p1 Ar Ar cr cr _ _ rfl rfl W h h)
      have co1 := hidd (fun W => co.out b (by omega) W)
      have ca2 := hidd (fun A' c' A'' c'' W h h' => ca.out (R + R) b p2 (by omega) A' A'' c' c'' _ _ rfl rfl W h h')
      have cl1 := hidd (fun A' c' W h h' => cl.out (R + R + b) y p3 (by have := HY.out; omega) A' B c' d _ _ rfl HM.out W h h')
      have cs1 := hidd (fun hle A' c' W h h' => cs.out (R + R + b) y p3 hle A' B c' d _ _ rfl HM.out W h h')
      clear hR0 hR15 p1 p2 p3 hRy hbit hdlt hdge hd0 hb hrl HR hsh
      generalize BM.D (BM.digs x) j = dx at *
      have HJS := hidd hjs
      clear hjs
      go_wp2_with fail
      refine (ca1.out _ HRL.out).mono ?_
      rintro e w1 ⟨A1, c1, rfl, g1, g2, gf1, hl1, hb1⟩
      have HL1 := hidd hl1
      have HB1 := hidd hb1
      clear hl1 hb1 x0
      go_wp2_with fail
      refine (co1.out _).mono ?_
      rintro e w2 ⟨A2, c2, rfl, g3, g4, gf2, hl2, hb2⟩
      have HL1' := hidd (HL1.out.below hb2)
      have HL2 := hidd hl2
      have HB2 := hidd (below_step HB1.out hb2)
      clear hl2 hb2 HL1 HB1
      go_wp2_with fail
      refine (ca2.out _ _ _ _ _ HL1'.out HL2.out).mono ?_
      rintro e w3 ⟨A3, c3, rfl, g5, g6, gf3, hl3, hb3⟩
      have HL3 := hidd hl3
      have HB3 := hidd (below_step HB2.out hb3)
      clear hl3 hb3 HL1' HL2 HB2
      go_wp2_with fail
      refine (cl1.out _ _ _ HL3.out (HB.out.below (below_step HBl.out HB3.out))).mono ?_
      rintro e w4 ⟨rfl, ql, rfl⟩
      have HB4 := hidd (below_drewN HB3.out ql)
      have HL4 := hidd (HL3.out.below (below_drewN (Below.refl _ _) ql))
      by_cases hlt : R + R + b < y
      · have hdec : decide (R + R + b < y) = true := decide_eq_true hlt
        have hdl := HDLT.out (by omega)
        have HDL := hidd hdl
        clear hdl
        go_wp2_with fail
        go_roundg (t + 1)
        case measure => omega
        case rel =>
          have h1 := HDL.out
          refine ⟨t, _, Q, by omega, by omega, ?_, rfl, ?_, HQL.out, HDQ.out, ?_, HO.out.below HB4.out, below_step HBl.out HB4.out⟩
          · omega
          · rw [h1.1]
            have : 2 * R + b = R + R + b := by omega
            rw [this]
            exact ⟨A3, c3, rfl, g5, g6, HL4.out⟩
          · rw [h1.2, HVQ.out]
            exact BM.pow_two_mul _ _
      · have hdec : decide (R + R + b < y) = false := decide_eq_false hlt
        have hdg := HDGE.out (by omega)
        have HDG := hidd hdg
        clear hdg
        have csx := hidd (fun W h h' => cs1.out (by omega) A3 c3 W h h')
        go_wp2_with fail
        refine (csx.out _ HL4.out (HB.out.below (below_step HBl.out HB4.out))).mono ?_
        rintro e w5 ⟨A5, c5, rfl, g7, g8, gf5, hl5, hb5⟩
        have HL5 := hidd hl5
        have HB5 := hidd (below_step HB4.out hb5)
        have HO5 := hidd (HO.out.below HB5.out)
        clear hl5 hb5
        have hroom := BM.room_of (k := x / 2 ^ (t + 1) / y) HDQ.out (j := j) (s := s) (by rw [HQL.out]; exact hjn) hs16 (by rw [HVQ.out, ← HJS.out])
        have hset := BM.set_val (l := Q) (j := j) (by rw [HQL.out]; exact hjn) (2 ^ s)
        rw [BM.pow_join, ← HJS.out] at hset
        have HSET := hidd hset
        have hO5 : w5.ownsRow w.heap.size 99 1 (.slice (some ⟨w.heap.size, 0, none⟩) n n) n (rowOf dV Q) := by
          have := HO5.out
          unfold OwnL at this
          rwa [HQL.out] at this
        have HW5 := hidd hO5
        have hgc : w5.cell? ⟨w.heap.size, j, none⟩ = some (.int .u32 (BM.D Q j : Nat)) := by
          have h1 := World.ownsRow.cellAt hO5 j (by omega)
          rw [h1, row_map, List.getElem?_map, BM.D_get (by rw [HQL.out]; exact hjn)]
          rfl
        have hgf : w5.frozen? ⟨w.heap.size, j, none⟩ = false := World.ownsRow.frozenAt hO5 j
        clear hset hO5
        generalize BM.D Q j = dq at *
        obtain ⟨pw, hpw⟩ : ∃ pw, 2 ^ s = pw := ⟨_, rfl⟩
        rw [hpw] at hroom HSET
        have hpi : (2 : Int) ^ s = (pw : Int) := by rw [← hpw]; simp
        have hpi2 : IntKind.u32.wrap ((1 : Int) * 2 ^ s) = (pw : Int) := by rw [Int.one_mul, hpi, IntKind.wrap_u32]; omega
        have hpi3 : IntKind.u32.wrap (pw : Int) = (pw : Int) := by rw [IntKind.wrap_u32]; omega
        clear hpw
        go_wp2_with fail
        go_region
        go_wp2_with fail
        have hsz5 : w.heap.size < w5.heap.size := by
          have h1 := OwnL.lt HO5.out w.heap.size rfl
          exact h1.2
        have hsz4 : w.heap.size < (w3.drewN ql).heap.size := by
          have h1 := OwnL.lt (HO.out.below HB4.out) w.heap.size rfl
          exact h1.2
        go_roundg (t + 1)
        case measure => omega
        case rel =>
          have h1 := HDG.out
          have hst := (World.ownsRow.stored HW5.out j (.int .u32 ((dq + pw : Nat) : Int))).1
          rw [← row_set] at hst
          have ecast : ((dq : Int) + (pw : Int)) = ((dq + pw : Nat) : Int) := by simp
          rw [ecast]
          refine ⟨t, _, Q.set j (dq + pw), by omega, by omega, ?_, rfl, ?_, by rw [List.length_set]; exact HQL.out, BM.set_dig HDQ.out hroom, ?_, ?_, ?_⟩
          · omega
          · rw [h1.1]
            have : 2 * R + b - y = R + R + b - y := by omega
            rw [this]
            refine ⟨A5, c5, rfl, g7, g8, ?_⟩
            have h2 := HL5.out.far (p := ⟨w.heap.size, j, none⟩) (.int .u32 ((dq + pw : Nat) : Int)) (fun ad e => by have := gf5 ad e; show ad.block ≠ w.heap.size; omega)
            exact h2.more (by simp [World.setCell])
          · rw [HSET.out, HVQ.out, h1.2, BM.pow_two_mul, Nat.add_mul, Nat.one_mul]
          · unfold OwnL
            rw [List.length_set, HQL.out]
            exact hst
          · exact Below.drew (Below.setCell (below_step HBl.out HB5.out) (Nat.le_refl _) _)
end Go.Proofs.Ytgeankdimknmiaa
