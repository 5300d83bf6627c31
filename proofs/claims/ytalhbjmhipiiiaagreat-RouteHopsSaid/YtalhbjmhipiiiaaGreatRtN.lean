/- Routes: what is told of them: how many ticks its links are; the map; made. -/
import Derived.Test.YtalhbjmhipiiiaaGreatRtM
import Derived.Test.YtalhbjmhipiiiaaGreatTpK
namespace Go.Proofs.YtalhbjmhipiiiaaGreat.Tp
set_option linter.unusedVariables false
open Go.RowKit Go.Maps

theorem lsI_in {n : Int} {L : List Lk} (hV : Valid n L) (x t : Int) : ∀ z ∈ lsI n L x t, ∃ i, i < L.length ∧ z = (i : Int) := fun z hz => by
  unfold lsI at hz
  split at hz
  · rename_i hok
    split at hz
    · simp at hz
    · rename_i h16
      obtain ⟨⟨hx0, hx1⟩, _⟩ := okB_iff.1 hok
      have hd := dist_le hV x t
      have := hV.hi
      exact wayL_in hV t _ x hx0 hx1 (by omega) rfl z hz
  · simp at hz
/-- how many ticks links are, together. -/
def ahL (L : List Lk) : List Int → Int
  | [] => 0
  | z :: l => fa (lkAt L z.toNat) + ahL L l
theorem ahL_snoc (L : List Lk) (z : Int) : ∀ l : List Int, ahL L (l ++ [z]) = ahL L l + fa (lkAt L z.toNat)
  | [] => by simp [ahL]
  | y :: l => by
    show fa (lkAt L y.toNat) + ahL L (l ++ [z]) = fa (lkAt L y.toNat) + ahL L l + fa (lkAt L z.toNat)
    rw [ahL_snoc L z l]
    omega
theorem ahL_le {n : Int} {L : List Lk} (hV : Valid n L) : ∀ l : List Int, (∀ z ∈ l, ∃ i, i < L.length ∧ z = (i : Int)) → 0 ≤ ahL L l ∧ ahL L l ≤ 1000 * l.length
  | [], _ => by simp [ahL]
  | z :: l, h => by
    have ih := ahL_le hV l (fun y hy => h y (by simp [hy]))
    obtain ⟨i, hi, rfl⟩ := h z (by simp)
    have hr := (rightB_iff n _).1 (hV.all _ (lkAt_mem hi))
    simp only [ahL, List.length_cons, Int.toNat_natCast]
    omega
theorem Ahead_no (v : Value) (x t : Int) (w : World) (h : NoneR w v) : Calls Tryz.prog 18 #[v, .int .i64 x, .int .i64 t] w fun e w' => e = .returned (.int .i64 0) ∧ w = w' := by
  have c := hidd (find_no v x t w h)
  clear h
  go_enter Tryz.func18, Tryz.ntmps18
  go_wp2_with fail
  refine c.out.mono ?_
  rintro e w1 ⟨rfl, rfl⟩
  go_wp2_with fail
  go_loopg [9, 23] 1 (fun g s9 s23 wr => s9 = .int .i64 0 ∧ s23 = .int .i64 0 ∧ wr = w)
  case atStart => exact ⟨rfl, rfl, rfl⟩
  case round =>
    obtain ⟨rfl, rfl, rfl⟩ := hrel
    go_wp2_with fail
    go_ret
    exact ⟨rfl, rfl⟩
set_option maxRecDepth 100000 in
set_option maxHeartbeats 4000000 in
theorem Ahead_all (B r bw m : Nat) (n : Int) (L : List Lk) (hV : Valid n L) (done : Bool) (x t : Int) (w : World) (h : RoutesAt w B r bw m n L done) (hB : B ≤ w.heap.size) :
    Calls Tryz.prog 18 #[.pointer (some ⟨r, 0, none⟩), .int .i64 x, .int .i64 t] w fun e w' => Post B r bw m n L done x t w w' ∧ e = .returned (.int .i64 (ahL L (lsI n L x t))) := by
  have hn1 := hV.lo
  have hLl : L.length ≤ 1000000 := by have := hV.len; omega
  have c := hidd (find_all B r bw m n L hV done x t w h hB)
  have hlen := lsI_len n L hV x t
  have hin := lsI_in hV x t
  have HLE := hidd (fun (l : List Int) h => ahL_le hV l h)
  have CK := hidd (fun (i : Nat) (hi : i < L.length) W (h : MapAt W m n L) => Link_in m n hn1 L hLl i hi W h)
  have HB := hidd hB
  obtain ⟨PO, hPO⟩ : ∃ PO : Ending → World → Prop, (fun (e : Ending) (w' : World) => Post B r bw m n L done x t w w' ∧ e = .returned (.int .i64 (ahL L (lsI n L x t)))) = PO := ⟨_, rfl⟩
  rw [hPO]
  have HPO := hidd hPO
  clear h hPO hV hB
  generalize lsI n L x t = l at *
  generalize erI n L x t = er at *
  go_enter Tryz.func18, Tryz.ntmps18
  go_wp2_with fail
  refine c.out.mono ?_
  rintro e w1 ⟨hP, _, A, k, rfl, hk, hl⟩
  have HP := hidd hP
  have HL := hidd hl
  have HIN := hidd hin
  obtain ⟨d, hR, _⟩ := hP
  have HR := hidd hR
  clear hl hR hin
  go_wp2_with fail
  go_loopg [9, 23] 20 (fun g s9 s23 wr => ∃ i : Nat, i ≤ l.length ∧ i + g = 20 ∧ s23 = .int .i64 (i : Int) ∧ s9 = .int .i64 (ahL L (l.take i)) ∧ Below w1.heap.size w1 wr)
  case atStart => exact ⟨0, by omega, by omega, rfl, rfl, Below.refl _ _⟩
  case round =>
    obtain ⟨i, hi, hg, rfl, rfl, hb⟩ := hrel
    have HG := hidd hg
    have HBW := hidd hb
    clear hg hb
    by_cases hlt : i < l.length
    · have hlt2 : (i : Int) < (l.length : Int) := by omega
      have hi0 : (0 : Int) ≤ (i : Int) := by omega
      obtain ⟨ad, rfl, _, hcell⟩ := (HL.out.below HBW.out).int i hlt
      obtain ⟨j, hj, hz⟩ := HIN.out (av l i) (av_mem hlt)
      have hR := HR.out.below HBW.out
      have c3 := hR.c3
      have c0 := hR.ways.map
      have ck := hidd (CK.out j hj wr hR.ways.mapAt)
      have hs1 := (HLE.out (l.take i) (fun z h => HIN.out z (List.mem_of_mem_take h)))
      have hs2 := (HLE.out (l.take (i + 1)) (fun z h => HIN.out z (List.mem_of_mem_take h)))
      have htl : (l.take i).length ≤ 15 := by rw [List.length_take]; omega
      have htl2 : (l.take (i + 1)).length ≤ 15 := by rw [List.length_take]; omega
      have hst : ahL L (l.take (i + 1)) = ahL L (l.take i) + fa (lkAt L j) := by rw [take_oneB hlt, ahL_snoc, hz]; rfl
      rw [hz] at hcell
      rw [hst] at hs2
      have HST := hidd hst
      clear hR hst hz
      unfold linkA at ck
      generalize ahL L (l.take i) = S at *
      generalize fr (lkAt L j) = a0 at *
      generalize tw (lkAt L j) = a1 at *
      generalize rt (lkAt L j) = a2 at *
      generalize sh (lkAt L j) = a3 at *
      generalize fa (lkAt L j) = a4 at *
      generalize mo (lkAt L j) = a5 at *
      generalize ro (lkAt L j) = a6 at *
      generalize fi (lkAt L j) = a7 at *
      have hw1 : -9223372036854775808 ≤ S + a4 := by omega
      have hw2 : S + a4 ≤ 9223372036854775807 := by omega
      clear hs1 hs2 htl htl2
      go_wp2_with fail
      refine ck.out.mono ?_
      rintro e w2 ⟨rfl, hb2⟩
      have HB2 := hidd (below_step HBW.out hb2)
      clear hb2
      go_wp2_with fail
      go_roundg (gk - 1)
      case measure => have := HG.out; omega
      case rel => exact ⟨i + 1, by omega, by have := HG.out; omega, by go_num, by rw [HST.out], below_new HB2.out _⟩
    · have hin2 : ¬ (i : Int) < (l.length : Int) := by omega
      have he : Hid (l.take i = l) := hidd (List.take_of_length_le (by omega))
      go_wp2_with fail
      rw [he.out]
      show PO (.returned (.int .i64 (ahL L l))) wr
      rw [← HPO.out]
      exact ⟨HP.out.then HB.out HBW.out, rfl⟩
theorem MapR_no (v : Value) (w : World) (h : NoneR w v) : Calls Tryz.prog 20 #[v] w fun e w' => e = .returned (.pointer none) ∧ w = w' := by
  have c := hidd (isNoneR_no v w h)
  clear h
  go_enter Tryz.func20, Tryz.ntmps20
  go_wp2_with fail
  refine c.out.mono ?_
  rintro e w1 ⟨rfl, rfl⟩
  go_wp2_with fail
  go_ret
  exact ⟨rfl, rfl⟩
theorem MapR_yes (B r bw m : Nat) (n : Int) (L : List Lk) (hV : Valid n L) (hI : WideL L) (done : Bool) (w : World) (h : RoutesAt w B r bw m n L done) : Calls Tryz.prog 20 #[.pointer (some ⟨r, 0, none⟩)] w fun e w' => ∃ m', e = .returned (.pointer (some ⟨m', 0, none⟩)) ∧ MapAt w' m' n L ∧ Below w.heap.size w w' := by
  have c := hidd (isNoneR_yes r bw w h.c3)
  have cc := hidd (Copy_yes m n hV.lo L (by have := hV.len; omega) hI w h.ways.mapAt)
  have c3 := h.c3
  have c0 := h.ways.map
  clear h hV
  go_enter Tryz.func20, Tryz.ntmps20
  go_wp2_with fail
  refine c.out.mono ?_
  rintro e w1 ⟨rfl, rfl⟩
  go_wp2_with fail
  refine cc.out.mono ?_
  rintro e w1 ⟨m', rfl, hm, _, hb⟩
  go_wp2_with fail
  go_ret
  exact ⟨m', rfl, hm, hb⟩
end Go.Proofs.YtalhbjmhipiiiaaGreat.Tp
