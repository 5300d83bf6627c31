/- Maps: numbersOf. -/
import Derived.Test.YtalhbjmhipiiiaaGreatTpD
namespace Go.Proofs.YtalhbjmhipiiiaaGreat.Tp
set_option linter.unusedVariables false
open Go.RowKit Go.Maps

theorem i64_nat {i : Nat} (h : i ≤ 1000000) : I64 (i : Int) := by
  unfold I64
  omega
theorem wf_nat {i : Nat} (h : i ≤ 1000000) : (Lit.int .i64 (i : Int)).wf = true := wf_i64 (i64_nat h)
def lkAt (L : List Lk) (i : Nat) : Lk := L.getD i (0, 0, 0, 0, 0, 0, 0, 0)
theorem lkAt_get {L : List Lk} {i : Nat} (h : i < L.length) : lkAt L i = L[i] := by simp [lkAt, h]
theorem lkAt_mem {L : List Lk} {i : Nat} (h : i < L.length) : lkAt L i ∈ L := by rw [lkAt_get h]; exact List.getElem_mem h
theorem lk_take {L : List Lk} {i : Nat} (h : i < L.length) : L.take (i + 1) = L.take i ++ [lkAt L i] := by
  rw [List.take_add_one, List.getElem?_eq_getElem h, lkAt_get h]; rfl
/-- where links come from, and where they go to. -/
def ends1 (x : Lk) : Int × Int := (fr x, tw x)
def endsL (L : List Lk) : List (Int × Int) := L.map ends1
theorem endsL_len (L : List Lk) : (endsL L).length = L.length := by simp [endsL]
theorem ge_endsL {L : List Lk} {i : Nat} (h : i < L.length) : ge (endsL L) i = ends1 (lkAt L i) := by
  rw [ge_at (by rw [endsL_len]; exact h), lkAt_get h]
  simp [endsL]
def WideL (L : List Lk) : Prop := ∀ x ∈ L, I64P (ends1 x)
theorem WideL.ends {L : List Lk} (h : WideL L) : ∀ p ∈ endsL L, I64P p := fun p hp => by
  obtain ⟨x, hx, rfl⟩ := List.mem_map.1 hp
  exact h x hx
theorem Lie.link {w : World} {B : Nat} {A : Option Addr} {l : List Lk} (h : Lie linkV 8 w B A l) (i : Nat) (hi : i < l.length) :
    ∃ ad, A = some ad ∧ (ad.add (i * 8)).block < B ∧ w.cell? (ad.add (i * 8)) = some (.int .i64 (fr (lkAt l i))) ∧ w.cell? ⟨(ad.add (i * 8)).block, (ad.add (i * 8)).off + 1, none⟩ = some (.int .i64 (tw (lkAt l i))) ∧ w.cell? ⟨(ad.add (i * 8)).block, (ad.add (i * 8)).off + 2, none⟩ = some (.int .i64 (rt (lkAt l i))) ∧ w.cell? ⟨(ad.add (i * 8)).block, (ad.add (i * 8)).off + 3, none⟩ = some (.int .i64 (sh (lkAt l i))) ∧ w.cell? ⟨(ad.add (i * 8)).block, (ad.add (i * 8)).off + 4, none⟩ = some (.int .i64 (fa (lkAt l i))) ∧ w.cell? ⟨(ad.add (i * 8)).block, (ad.add (i * 8)).off + 5, none⟩ = some (.int .i64 (mo (lkAt l i))) ∧ w.cell? ⟨(ad.add (i * 8)).block, (ad.add (i * 8)).off + 6, none⟩ = some (.int .i64 (ro (lkAt l i))) ∧ w.cell? ⟨(ad.add (i * 8)).block, (ad.add (i * 8)).off + 7, none⟩ = some (.int .i64 (fi (lkAt l i))) := by
  obtain ⟨ad, e, hB, hc⟩ := h (by omega)
  have hx : l[i]? = some l[i] := List.getElem?_eq_getElem hi
  rw [lkAt_get hi]
  have h0 := hc i _ hx 0 _ rfl
  have h1 := hc i _ hx 1 _ rfl
  have h2 := hc i _ hx 2 _ rfl
  have h3 := hc i _ hx 3 _ rfl
  have h4 := hc i _ hx 4 _ rfl
  have h5 := hc i _ hx 5 _ rfl
  have h6 := hc i _ hx 6 _ rfl
  have h7 := hc i _ hx 7 _ rfl
  rw [← add_of_add] at h1 h2 h3 h4 h5 h6 h7
  exact ⟨ad, e, by rw [block_of_add]; exact hB, h0, h1, h2, h3, h4, h5, h6, h7⟩

set_option maxHeartbeats 4000000 in
set_option maxRecDepth 100000 in
theorem numbersOf_any (A : Option Addr) (L : List Lk) (c : Nat) (hL : L.length ≤ 1000000) (hI : WideL L) (w : World) (hA : Lie linkV 8 w w.heap.size A L) :
    Calls Tryz.prog 45 #[.slice A L.length c] w fun e w' => ∃ b, e = .returned (.map (some b)) ∧ NumsAt w' b (endsL L) ∧ w.heap.size ≤ b ∧ Below w.heap.size w w' := by
  have HA := hidd hA
  have HI := hidd hI
  have HE := hidd (fun i h => ge_endsL (L := L) (i := i) h)
  have HLen := hidd (endsL_len L)
  have cE := hidd (fun a0 a1 a2 a3 a4 a5 a6 a7 W => endsOf_any a0 a1 a2 a3 a4 a5 a6 a7 W)
  have hmm := @run_makeMap Tryz.prog
  have HO0 : Hid (NumsK (w.alloc (.map #[] 0)) w.heap.size (endsL L) 0) := hidd (World.ownsMap_made w _ _ _)
  have hb0 := hidd ((Below.refl w.heap.size w).alloc (Nat.le_refl _) (.map #[] 0))
  generalize endsL L = E at *
  clear hA hI
  go_enter Tryz.func45, Tryz.ntmps45
  go_wp2_with fail
  go_loopg [9] (L.length + 2) (fun g s9 wr => ∃ i : Nat, i ≤ L.length ∧ i + g = L.length + 2 ∧ s9 = .int .i64 (i : Int) ∧ NumsK wr w.heap.size E i ∧ Below w.heap.size w wr)
  case atStart => exact ⟨0, by omega, by omega, rfl, HO0.out, hb0.out⟩
  case round =>
    obtain ⟨i, hi1, hg, rfl, hO, hB⟩ := hrel
    have HG := hidd hg
    have HO := hidd hO
    have HB := hidd hB
    have hz : w.heap.size < wr.heap.size := World.ownsMap.lt hO
    clear hg hO hB HO0 hb0
    by_cases hin : i < L.length
    · have hin2 : (i : Int) < (L.length : Int) := by omega
      have hi0 : (0 : Int) ≤ (i : Int) := by omega
      obtain ⟨ad, rfl, ha, x0, x1, x2, x3, x4, x5, x6, x7⟩ := (HA.out.below HB.out).link i hin
      have hge := hidd (HE.out i hin)
      have hp : Hid (I64P (ends1 (lkAt L i))) := hidd (HI.out _ (lkAt_mem hin))
      unfold ends1 at hge hp
      generalize fr (lkAt L i) = a0 at *
      generalize tw (lkAt L i) = a1 at *
      generalize rt (lkAt L i) = a2 at *
      generalize sh (lkAt L i) = a3 at *
      generalize fa (lkAt L i) = a4 at *
      generalize mo (lkAt L i) = a5 at *
      generalize ro (lkAt L i) = a6 at *
      generalize fi (lkAt L i) = a7 at *
      have WF := hidd (show (Lit.int .i64 (i : Int)).wf = true from wf_nat (by omega))
      have hmax : Hid (i < maxLen) := hidd (by unfold maxLen; omega)
      go_wp2_with fail
      refine (cE.out a0 a1 a2 a3 a4 a5 a6 a7 _).mono ?_
      rintro e w2 ⟨rfl, hb2⟩
      have HB2 := hidd (below_step (below_new (Below.refl wr.heap.size wr) _) hb2)
      have HO2 : Hid (w2.ownsMap Tryz.prog 124 (plainElem (H := Unit) Tryz.prog 3) w.heap.size i (numF E i)) := hidd (NumsK.below HO.out HB2.out)
      clear hb2
      go_wp2_with (first | (at_mapUpdate; refine wpList_mapUpdate_own _ rfl _ _ _ 100 rfl 124 3 keyEnds Tryz.underlying100 _ w.heap.size i _ rfl HO2.out hmax.out _ _ _ rfl rfl (keyOf_ends hp.out) _ [] (plainElem_int Tryz.underlying3 WF.out) ?_; intro w3 hown3 hg3; have HO3 := hidd hown3; have HG3 := hidd hg3; clear hown3 hg3) | fail)
      have hg := HG.out
      have hs2 := HB2.out.size
      go_roundg (gk - 1)
      case measure => omega
      case rel => exact ⟨i + 1, by omega, by omega, by go_num, by have q := HO3.out; rw [← hge.out] at q; exact q, (HB.out.trans (HB2.out.mono HB.out.size)).grown HG3.out (by have := HB.out.size; omega) (fun k hk => by cases hk; exact Nat.le_refl _)⟩
    · have hin2 : ¬ (i : Int) < (L.length : Int) := by omega
      have he : i = E.length := by have := HLen.out; omega
      have HE2 := hidd he
      clear he
      go_wp2_with fail
      go_ret
      exact ⟨_, rfl, by have q := HO.out; rw [HE2.out] at q; exact q, Nat.le_refl _, HB.out⟩
end Go.Proofs.YtalhbjmhipiiiaaGreat.Tp
