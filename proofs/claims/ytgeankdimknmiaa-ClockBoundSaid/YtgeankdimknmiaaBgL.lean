/- Products of numbers by their digits. -/
import Derived.Test.YtgeankdimknmiaaBgE
import Derived.Test.YtgeankdimknmiaaBgO
namespace Go.Proofs.Ytgeankdimknmiaa
set_option linter.unusedVariables false
open Go.RowKit

theorem OwnL.plain {w : World} {base : Nat} {e : TypeId} {g n : Nat} {Q : List Nat} (h : OwnL dV 1 w base e (.slice (some ⟨g, 0, none⟩) n n) Q) (hn : Q.length = n) : w.ownsRow base e 1 (.slice (some ⟨g, 0, none⟩) n n) n (rowOf dV Q) := by
  unfold OwnL at h
  rwa [hn] at h
theorem OwnL.cellD {w : World} {base : Nat} {e : TypeId} {g n : Nat} {Q : List Nat} (h : OwnL dV 1 w base e (.slice (some ⟨g, 0, none⟩) n n) Q) (hn : Q.length = n) {j : Nat} (hj : j < n) : w.cell? ⟨g, j, none⟩ = some (.int .u32 (BM.D Q j : Nat)) ∧ w.frozen? ⟨g, j, none⟩ = false := by
  have h' := h.plain hn
  refine ⟨?_, World.ownsRow.frozenAt h' j⟩
  rw [World.ownsRow.cellAt h' j (by omega), row_map, List.getElem?_map, BM.D_get (by omega)]
  rfl
theorem OwnL.setD {w : World} {base : Nat} {e : TypeId} {g n : Nat} {Q : List Nat} (h : OwnL dV 1 w base e (.slice (some ⟨g, 0, none⟩) n n) Q) (hn : Q.length = n) (j q : Nat) : OwnL dV 1 (w.setCell ⟨g, j, none⟩ (.int .u32 (q : Int))) base e (.slice (some ⟨g, 0, none⟩) n n) (Q.set j q) := by
  have h1 := (World.ownsRow.stored (h.plain hn) j (.int .u32 (q : Int))).1
  rw [← row_set] at h1
  unfold OwnL
  rw [List.length_set, hn]
  exact h1
set_option maxRecDepth 100000 in
set_option maxHeartbeats 8000000 in
theorem mul_big (x y : Nat) (hx : x < 65536 ^ 7) (hy : y < 65536 ^ 7) (A B : Option Addr) (c d n m : Nat) (hn : (BM.digs x).length = n) (hm : (BM.digs y).length = m) (w : World) (hA : Lie dV 1 w w.heap.size A (BM.digs x)) (hB : Lie dV 1 w w.heap.size B (BM.digs y)) :
    Calls Try.prog 27 #[.slice A n c, .slice B m d] w (BigEnd (x * y) w) := by
  obtain ⟨i0, hi0, hz0, hz1, hz2⟩ := info_parts digInfo
  have HN := hidd hn
  have HM := hidd hm
  have HA := hidd hA
  have HB := hidd hB
  have n16 : n ≤ 7 := by rw [← hn]; exact BM.len_le hx
  have m16 : m ≤ 7 := by rw [← hm]; exact BM.len_le hy
  have ct := hidd (fun A L c n hn hc hx W hl => trim_any A L c n hn hc hx W hl)
  clear hA hB hn hm hx hy
  go_enter Try.func27, Try.ntmps27
  go_wp2_with (at_make; refine wpList_make_full _ rfl (.tmp 13) (.tmp 13) _ rfl w.heap.size 99 i0 (.int .u32 0) 1 Try.underlying76 hi0 hz0 hz1 .i64 .i64 ((n : Int) + (m : Int)) ((n : Int) + (m : Int)) (n + m) rfl rfl (by simp) (by simp) (by rw [hz2]; omega) (by simp only [maxLen]; omega) (Nat.le_refl _) ?_; intro w0 hown0 hgrow0)
  have HO0 : Hid (OwnL dV 1 w0 w.heap.size 99 (.slice (some ⟨w.heap.size, 0, none⟩) (n + m) (n + m)) (List.replicate (n + m) 0)) := hidd (by unfold OwnL; rw [row_zeros, List.length_replicate]; exact hown0)
  have HB0 := hidd (Below.grown (Below.refl w.heap.size w) hgrow0 (Nat.le_refl _) (by intro k hk; cases hk))
  clear hown0 hgrow0
  go_wp2_with fail
  go_loopg [6] (n + 1) (fun g s6 wr => ∃ (i : Nat) (Q : List Nat), i ≤ n ∧ i + g = n + 1 ∧ s6 = .int .i64 (i : Int) ∧ Q.length = n + m ∧ BM.Dig Q ∧ BM.valD Q = BM.valD ((BM.digs x).take i) * y ∧ OwnL dV 1 wr w.heap.size 99 (.slice (some ⟨w.heap.size, 0, none⟩) (n + m) (n + m)) Q ∧ Below w.heap.size w wr)
  case atStart => exact ⟨0, List.replicate (n + m) 0, by omega, by omega, rfl, by simp, (BM.dig_zeros _).1, by rw [(BM.dig_zeros _).2]; simp [BM.valD], HO0.out, HB0.out⟩
  case round =>
    obtain ⟨i, Q, hi, hg, rfl, hQ, hdQ, hvQ, hO, hBl⟩ := hrel
    have HG := hidd hg
    have HQL := hidd hQ
    have HDQ := hidd hdQ
    have HVQ := hidd hvQ
    have HO := hidd hO
    have HBl := hidd hBl
    clear hg hQ hdQ hvQ hO hBl HB0 HO0
    by_cases hin : i < n
    · have hin' : (i : Int) < (n : Int) := by omega
      go_wp2_with fail
      obtain ⟨gko, rfl⟩ : ∃ g, g = gk := ⟨gk, rfl⟩
      go_loopg [7, 8] (m + 2) (fun g s7 s8 wx => ∃ (k cy : Nat) (Q : List Nat), k ≤ m + 1 ∧ k + g = m + 2 ∧ s7 = .int .u64 (cy : Int) ∧ s8 = .int .i64 (k : Int) ∧ cy < 65536 ∧ Q.length = n + m ∧ BM.Dig Q ∧ BM.valD Q + cy * 65536 ^ (i + k) = BM.rowT (BM.digs x) (BM.digs y) i k ∧ OwnL dV 1 wx w.heap.size 99 (.slice (some ⟨w.heap.size, 0, none⟩) (n + m) (n + m)) Q ∧ Below w.heap.size w wx)
      case atStart => exact ⟨0, 0, Q, by omega, by omega, rfl, rfl, by omega, HQL.out, HDQ.out, by rw [BM.rowT_zero, BM.valD_digs, HVQ.out]; simp, HO.out, HBl.out⟩
      case round =>
        clear HQL HDQ HVQ HO HBl Q
        obtain ⟨k, cy, Q, hk, hg, rfl, rfl, hcy, hQ, hdQ, hvQ, hO, hBl⟩ := hrel
        have HG2 := hidd hg
        have HQL := hidd hQ
        have HDQ := hidd hdQ
        have HVQ := hidd hvQ
        have HO := hidd hO
        have HBl := hidd hBl
        clear hg hQ hdQ hvQ hO hBl
        by_cases hkm : k < m
        · have hkm' : (k : Int) < (m : Int) := by omega
          obtain ⟨ad, rfl, hb, x0⟩ := (HA.out.below HBl.out).digit i (by rw [HN.out]; omega)
          obtain ⟨bd, rfl, hb', y0⟩ := (HB.out.below HBl.out).digit k (by rw [HM.out]; omega)
          obtain ⟨hqc, hqf⟩ := HO.out.cellD HQL.out (j := i + k) (by omega)
          have hst := BM.mul_step (l := Q) (j := i + k) (c := cy) (p := BM.D (BM.digs x) i * BM.D (BM.digs y) k) (by rw [HQL.out]; omega)
          have hca := BM.carry_lt (p := BM.D (BM.digs x) i * BM.D (BM.digs y) k) hcy (BM.D_lt HDQ.out (i + k)) (BM.D_lt (BM.dig_digs x) i) (BM.D_lt (BM.dig_digs y) k) (Nat.le_refl _)
          have hrs := BM.rowT_succ (BM.digs x) (BM.digs y) i k
          have hdq := BM.D_lt HDQ.out (i + k)
          have hai := BM.D_lt (BM.dig_digs x) i
          have hbk := BM.D_lt (BM.dig_digs y) k
          have hpi : ((BM.D (BM.digs x) i : Nat) : Int) * ((BM.D (BM.digs y) k : Nat) : Int) = ((BM.D (BM.digs x) i * BM.D (BM.digs y) k : Nat) : Int) := by simp
          generalize BM.D (BM.digs x) i * BM.D (BM.digs y) k = p at *
          generalize BM.D (BM.digs x) i = ai at *
          generalize BM.D (BM.digs y) k = bk at *
          generalize hDQ : BM.D Q (i + k) = dq at *
          obtain ⟨q, hq⟩ : ∃ q, (cy + dq + p) % 65536 = q := ⟨_, rfl⟩
          obtain ⟨r, hr⟩ : ∃ r, (cy + dq + p) / 65536 = r := ⟨_, rfl⟩
          rw [hq, hr] at hst
          have HST := hidd hst
          have HRS := hidd hrs
          obtain ⟨J, hJ⟩ : ∃ J, i + k = J := ⟨_, rfl⟩
          rw [hJ] at hqc hqf
          have hJi : (i : Int) + (k : Int) = (J : Int) := by omega
          have hJ2 : (J : Int) < (n : Int) + (m : Int) := by omega
          have hJ0 : (0 : Int) ≤ (J : Int) := by omega
          have HJ := hidd hJ
          obtain ⟨s, hs⟩ : ∃ s, cy + dq + p = s := ⟨_, rfl⟩
          have hs4 : s < 4294967296 := by omega
          have hqi : (s : Int) % 65536 = (q : Int) := by omega
          have hri : (s : Int) / 65536 = (r : Int) := by omega
          have hw1 : IntKind.u64.wrap (ai : Int) = (ai : Int) := by rw [IntKind.wrap_u64]; omega
          have hw2 : IntKind.u64.wrap (bk : Int) = (bk : Int) := by rw [IntKind.wrap_u64]; omega
          have hw3 : IntKind.u64.wrap (p : Int) = (p : Int) := by rw [IntKind.wrap_u64]; omega
          have hw4 : IntKind.u64.wrap ((cy : Int) + (dq : Int) + (p : Int)) = (s : Int) := by rw [IntKind.wrap_u64]; omega
          have hq6 : q < 65536 := by omega
          have hr6 : r < 65536 := by omega
          clear hst hrs hDQ hq hr hJ hca hs
          go_wp2_with fail
          go_quiet (fail)
          go_wp2_with fail
          have hsz : w.heap.size < wr.heap.size := (OwnL.lt HO.out w.heap.size rfl).2
          have hg := HG2.out
          have hj := HJ.out
          have h2 := HST.out
          rw [hj] at h2
          go_roundg (gk - 1)
          case measure => omega
          case rel =>
            refine ⟨k + 1, r, Q.set J q, by omega, by omega, (by first | rfl | rw [hri]), by go_num, hr6, by rw [List.length_set]; exact HQL.out, BM.set_dig HDQ.out hq6, ?_, ?_, ?_⟩
            · have e : i + (k + 1) = J + 1 := by omega
              have h1 := HVQ.out
              rw [e, h2, HRS.out, hj]
              rw [hj] at h1
              omega
            · exact OwnL.setD (HO.out) HQL.out J q
            · have hbx := HBl.out
              (repeat' (first | (with_reducible exact Below.refl _ _) | (with_reducible assumption) | (with_reducible apply Below.setCell) | (with_reducible apply Below.alloc) | (with_reducible apply Below.drew) | (with_reducible apply below_drewN) | (with_reducible refine Below.trans ?_ (Below.mono (by assumption) ?_)) | omega | (simp; done) | (simp; omega)))
        · have hkm' : ¬ (k : Int) < (m : Int) := by omega
          by_cases hc0 : cy = 0
          · subst hc0
            go_wp2_with fail
            have hg := HG.out
            go_roundg (gko - 1)
            case measure => omega
            case rel => exact ⟨i + 1, Q, by omega, by omega, by go_num, HQL.out, HDQ.out, by
              have h1 := HVQ.out
              rw [BM.rowT_end _ _ _ _ (by rw [HM.out]; omega), BM.valD_digs] at h1
              omega, HO.out, HBl.out⟩
          · have hcp : (0 : Int) < (cy : Int) := by omega
            have hk' : k = m := by
              by_cases hkm2 : m + 1 ≤ k
              · exact absurd (BM.carry_end (l := Q) (BM.dig_digs x) (BM.dig_digs y) (i := i) (k := k) (c := cy) (by rw [HN.out]; omega) (by rw [HM.out]; omega) HVQ.out) hc0
              · omega
            obtain ⟨hqc, hqf⟩ := HO.out.cellD HQL.out (j := i + k) (by omega)
            have hst := BM.mul_step (l := Q) (j := i + k) (c := cy) (p := 0) (by rw [HQL.out]; omega)
            have hrs := BM.rowT_succ (BM.digs x) (BM.digs y) i k
            rw [BM.D_out (l := BM.digs y) (i := k) (by rw [HM.out]; omega)] at hrs
            have hdq := BM.D_lt HDQ.out (i + k)
            generalize hDQ : BM.D Q (i + k) = dq at *
            obtain ⟨q, hq⟩ : ∃ q, (cy + dq + 0) % 65536 = q := ⟨_, rfl⟩
            obtain ⟨r, hr⟩ : ∃ r, (cy + dq + 0) / 65536 = r := ⟨_, rfl⟩
            rw [hq, hr] at hst
            have HST := hidd hst
            have HRS := hidd hrs
            obtain ⟨J, hJ⟩ : ∃ J, i + k = J := ⟨_, rfl⟩
            rw [hJ] at hqc hqf
            have hJi : (i : Int) + (k : Int) = (J : Int) := by omega
            have hJ2 : (J : Int) < (n : Int) + (m : Int) := by omega
            have hJ0 : (0 : Int) ≤ (J : Int) := by omega
            have HJ := hidd hJ
            have HK := hidd hk'
            have hqi : ((cy : Int) + (dq : Int)) % 65536 = (q : Int) := by omega
            have hri : ((cy : Int) + (dq : Int)) / 65536 = (r : Int) := by omega
            have hq6 : q < 65536 := by omega
            have hr6 : r < 65536 := by omega
            clear hst hrs hDQ hq hr hJ hk'
            go_wp2_with fail
            have hsz : w.heap.size < wr.heap.size := (OwnL.lt HO.out w.heap.size rfl).2
            have hg := HG2.out
            have hj := HJ.out
            have hkk := HK.out
            have h2 := HST.out
            rw [hj] at h2
            go_roundg (gk - 1)
            case measure => omega
            case rel =>
              refine ⟨k + 1, r, Q.set J q, by omega, by omega, (by first | rfl | rw [hri]), by go_num, hr6, by rw [List.length_set]; exact HQL.out, BM.set_dig HDQ.out hq6, ?_, ?_, ?_⟩
              · have e : i + (k + 1) = J + 1 := by omega
                have h1 := HVQ.out
                rw [e, h2, HRS.out]
                rw [hj] at h1
                simp
                omega
              · exact OwnL.setD (HO.out) HQL.out J q
              · exact Below.setCell HBl.out (Nat.le_refl _) _
    · have hin' : ¬ (i : Int) < (n : Int) := by omega
      have e : BM.valD Q = x * y := by
        rw [HVQ.out, List.take_of_length_le (by rw [HN.out]; omega), BM.valD_digs]
      have HE := hidd e
      have hlie : Lie dV 1 wr wr.heap.size (some ⟨w.heap.size, 0, none⟩) Q := by
        obtain ⟨A', c', e, _, _, h⟩ := HO.out.lie dV_len
        have : A' = some ⟨w.heap.size, 0, none⟩ := by injection e with e; exact e.symm
        rw [this] at h; exact h
      have HL := hidd hlie
      have cta := hidd (ct.out (some ⟨w.heap.size, 0, none⟩) Q (n + m) (n + m) HQL.out (Nat.le_refl _) (by simp only [maxLen]; omega) wr hlie)
      clear e hlie
      go_wp2_with fail
      refine cta.out.mono ?_
      rintro e w' ⟨rfl, rfl⟩
      go_wp2_with fail
      go_ret
      exact trim_end (by rw [HQL.out]; exact Nat.le_refl _) (by simp only [maxLen]; omega) HDQ.out HE.out (fun ad e => by injection e with e; subst e; exact Nat.le_refl _) HL.out HBl.out
end Go.Proofs.Ytgeankdimknmiaa
