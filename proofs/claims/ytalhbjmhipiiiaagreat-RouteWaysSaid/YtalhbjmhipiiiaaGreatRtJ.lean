/- Routes: all ways, worked out. -/
import Derived.Test.YtalhbjmhipiiiaaGreatRtI
namespace Go.Proofs.YtalhbjmhipiiiaaGreat.Tp
set_option linter.unusedVariables false
open Go.RowKit Go.Maps

/-- how far all are from the first k nodes. -/
def farN (n : Int) (L : List Lk) (far : FarT) (k : Nat) : FarT := fun x u => if u < k ∧ x < n.toNat then dist n L (u : Int) (x : Int) else far x u
def lksN (n : Int) (L : List Lk) (k : Nat) : LksT := fun x u => if u < k ∧ x < n.toNat ∧ dist n L (u : Int) (x : Int) < 16 then wayL n L (u : Int) (dist n L (u : Int) (x : Int)) (x : Int) else []
theorem farN_next (n : Int) (L : List Lk) (far : FarT) (k : Nat) : ∀ x u, x < 16 → u < 16 → farN n L far (k + 1) x u = colF (farN n L far k) n.toNat k (fun x => dist n L (k : Int) (x : Int)) x u := fun x u _ _ => by
  simp only [farN, colF]
  by_cases h : u = k ∧ x < n.toNat
  · obtain ⟨rfl, h2⟩ := h
    rw [if_pos (show u < u + 1 ∧ x < n.toNat from ⟨by omega, h2⟩), if_pos ⟨rfl, h2⟩]
  · rw [if_neg h]
    by_cases h2 : u < k ∧ x < n.toNat
    · rw [if_pos h2, if_pos ⟨by omega, h2.2⟩]
    · rw [if_neg h2, if_neg (fun q => by
        by_cases e : u = k
        · exact h ⟨e, q.2⟩
        · exact h2 ⟨by omega, q.2⟩)]
theorem lksN_next {n : Int} {L : List Lk} (hV : Valid n L) (k : Nat) : ∀ x u, x < 16 → u < 16 → lksN n L (k + 1) x u = laid n L k (lksN n L k) n.toNat 0 x u := fun x u _ _ => by
  have hd := dist_le hV (x : Int) (k : Int)
  have hn := hV.hi
  unfold laid
  by_cases h : u = k ∧ x < n.toNat ∧ (dist n L (k : Int) (x : Int) < n.toNat ∨ (dist n L (k : Int) (x : Int) = n.toNat ∧ x < 0))
  · obtain ⟨rfl, h2, h3⟩ := h
    rw [if_pos ⟨rfl, h2, h3⟩]
    unfold lksN
    rw [if_pos ⟨by omega, h2, by omega⟩]
  · rw [if_neg h]
    unfold lksN
    by_cases h2 : u < k ∧ x < n.toNat ∧ dist n L (u : Int) (x : Int) < 16
    · rw [if_pos h2, if_pos ⟨by omega, h2.2⟩]
    · rw [if_neg h2, if_neg (fun q => by
        by_cases e : u = k
        · subst e
          exact h ⟨rfl, q.2.1, .inl (by omega)⟩
        · exact h2 ⟨by omega, q.2⟩)]
set_option maxHeartbeats 2000000 in
theorem work_any (bw m : Nat) (n : Int) (L : List Lk) (hV : Valid n L) (far : FarT) (w : World) (h : WaysAt w w.heap.size bw m n L far (lksN n L 0)) :
    Calls Tryz.prog 48 #[.pointer (some ⟨bw, 0, none⟩)] w fun e w' => e = .returned (.tuple #[]) ∧ WaysAt w' w'.heap.size bw m n L (farN n L far n.toNat) (lksN n L n.toNat) ∧ OnlyB bw w w' := by
  have hn1 := hV.lo
  have hn2 := hV.hi
  have CN := hidd (fun W (h : MapAt W m n L) => Nodes_yes m n hn1 L W h)
  have CM := hidd (fun (t : Nat) (ht : (t : Int) < n) far lks W (h : WaysAt W W.heap.size bw m n L far lks) => measure_any bw m n L hV far lks t ht W h)
  have CL := hidd (fun (t : Nat) (ht : (t : Int) < n) far lks (hf) (h0) W (h : WaysAt W W.heap.size bw m n L far lks) => lay_any bw m n L hV far lks t ht hf h0 W h)
  have A0 := hidd (h.far_congr (far' := farN n L far 0) (fun x u _ _ => by unfold farN; rw [if_neg (by omega)]))
  have HV := hidd hV
  have c2 := h.map
  have HM := hidd h.mapAt
  clear h hV
  go_enter Tryz.func48, Tryz.ntmps48
  go_wp2_with fail
  refine (CN.out _ HM.out).mono ?_
  rintro e w' ⟨rfl, rfl⟩
  go_wp2_with fail
  go_loopg [8] 20 (fun g s8 wr => ∃ k : Nat, (k : Int) ≤ n ∧ k + g = 20 ∧ s8 = .int .i64 (k : Int) ∧ WaysAt wr wr.heap.size bw m n L (farN n L far k) (lksN n L k) ∧ OnlyB bw w wr)
  case atStart => exact ⟨0, by omega, by omega, rfl, A0.out, OnlyB.of (Below.refl _ _)⟩
  case round =>
    obtain ⟨k, hk, hg, rfl, hA, hO⟩ := hrel
    have HG := hidd hg
    have HA := hidd hA
    have HO := hidd hO
    clear hg hA hO c2
    by_cases hin : (k : Int) < n
    · go_wp2_with fail
      refine (CM.out k hin _ _ _ HA.out).mono ?_
      rintro e w1 ⟨rfl, hA1, hO1⟩
      have HA1 := hidd ((hA1.far_congr (farN_next n L far k)).more (Nat.le_trans (Nat.le_refl _) hO1.size) (Nat.le_refl _))
      have HO1 := hidd (HO.out.trans hO1)
      clear hA1 hO1
      go_wp2_with fail
      refine (CL.out k hin _ _ (fun x hx => by unfold farN; rw [if_pos ⟨by omega, by omega⟩]) (fun x => by unfold lksN; rw [if_neg (by omega)]) _ HA1.out).mono ?_
      rintro e w2 ⟨rfl, hA2, hO2⟩
      have HA2 := hidd (hA2.lks_congr (lksN_next HV.out k))
      have HO2 := hidd (HO1.out.trans hO2)
      clear hA2 hO2
      go_wp2_with fail
      go_roundg (gk - 1)
      case measure => have := HG.out; omega
      case rel => exact ⟨k + 1, by omega, by have := HG.out; omega, by go_num, HA2.out, HO2.out⟩
    · have hkn : k = n.toNat := by omega
      subst hkn
      go_wp2_with fail
      go_end0
      exact ⟨rfl, HA.out, HO.out⟩
end Go.Proofs.YtalhbjmhipiiiaaGreat.Tp
