/- Heaps: what the law knows of three items. -/
import Derived.Test.YtnjkfpjccedkjaaHpL
namespace Go.Proofs.Ytnjkfpjccedkjaa.Hp
set_option linter.unusedVariables false
open Go.RowKit Go.Maps Go.Sort Go.Proofs.Ytnjkfpjccedkjaa.Tp

instance (x y : It) : Decidable (Le x y) := by unfold Le; infer_instance
def k1 : List It := [(7, 1, 2, 1)]
def k2 : List It := [(7, 1, 2, 1), (3, 1, 3, 2)]
def k3 : List It := [(7, 1, 2, 1), (3, 1, 3, 2), (9, 1, 2, 3)]
def k4 : List It := [(7, 1, 2, 1), (3, 1, 3, 2), (9, 0, 1, 3)]
def k5 : List It := [(7, 1, 2, 1), (3, 1, 3, 2)]
set_option maxRecDepth 100000 in
set_option maxHeartbeats 4000000 in
theorem known11_any (w : World) : Calls Try.prog 8 #[] w fun e w' => e = .returned (.bool true) ∧ Below w.heap.size w w' := by
  have cN := hidd (fun W => newR W)
  have cP1 := hidd (fun R h W (H : HR R W h [] 0) => putR_ok H (id := 7) (n := 1) (d := 2) (by omega) (by omega) (by omega) (by omega) (by decide) (by decide) (by decide) (by omega) (by omega))
  have cP2 := hidd (fun R h W (H : HR R W h k1 1) => putR_ok H (id := 3) (n := 1) (d := 3) (by omega) (by omega) (by omega) (by omega) (by decide) (by decide) (by decide) (by omega) (by omega))
  have cP3 := hidd (fun R h W (H : HR R W h k2 2) => putR_ok H (id := 9) (n := 1) (d := 2) (by omega) (by omega) (by omega) (by omega) (by decide) (by decide) (by decide) (by omega) (by omega))
  have cL := hidd (fun R h W (H : HR R W h k3 3) => leastR H (x := (3, 1, 3, 2)) (by unfold MinOf; decide))
  have cS := hidd (fun R h W (H : HR R W h k3 3) => setR_ok H (x := (9, 1, 2, 3)) (by decide) (n := 0) (d := 1) (by omega) (by omega) (by omega) (by omega) (by decide))
  have cT := hidd (fun R h W (H : HR R W h k4 3) => takeR H (x := (9, 0, 1, 3)) (by unfold MinOf; decide))
  have cE := hidd (fun R h W (H : HR R W h k5 3) => lenR H)
  go_enter Try.func8, Try.ntmps8
  go_wp2_with fail
  refine (cN.out _).mono ?_
  rintro e w0 ⟨rfl, ⟨R0, hR0, hn0⟩, hb0⟩
  have B0 := hidd hb0
  have HR0 := hidd hR0
  have N0 := hidd hn0
  clear hb0 hR0 hn0
  go_wp2_with fail
  refine (cP1.out R0 _ _ HR0.out).mono ?_
  rintro e w1 ⟨rfl, R1, hR1, hS1, hN1⟩
  have B1 := hidd (hS1.below B0.out.size N0.out)
  have N1 : Hid (∀ k, R1 k → w.heap.size ≤ k) := hidd (fun k hk => by
    rcases Nat.lt_or_ge k w0.heap.size with q | q
    · exact N0.out k (hN1 k q hk)
    · exact Nat.le_trans B0.out.size q)
  have HR1 : Hid (HR R1 w1 _ k1 1) := hidd hR1
  clear hR1 hS1 hN1
  go_wp2_with fail
  refine (cP2.out R1 _ _ HR1.out).mono ?_
  rintro e w2 ⟨rfl, R2, hR2, hS2, hN2⟩
  have A1 := hidd (Nat.le_trans B0.out.size B1.out.size)
  have B2 := hidd (hS2.below A1.out N1.out)
  have N2 : Hid (∀ k, R2 k → w.heap.size ≤ k) := hidd (fun k hk => by
    rcases Nat.lt_or_ge k w1.heap.size with q | q
    · exact N1.out k (hN2 k q hk)
    · exact Nat.le_trans A1.out q)
  have HR2 : Hid (HR R2 w2 _ k2 2) := hidd hR2
  clear hR2 hS2 hN2
  go_wp2_with fail
  refine (cP3.out R2 _ _ HR2.out).mono ?_
  rintro e w3 ⟨rfl, R3, hR3, hS3, hN3⟩
  have A2 := hidd (Nat.le_trans A1.out B2.out.size)
  have B3 := hidd (hS3.below A2.out N2.out)
  have N3 : Hid (∀ k, R3 k → w.heap.size ≤ k) := hidd (fun k hk => by
    rcases Nat.lt_or_ge k w2.heap.size with q | q
    · exact N2.out k (hN3 k q hk)
    · exact Nat.le_trans A2.out q)
  have HR3 : Hid (HR R3 w3 _ k3 3) := hidd hR3
  have A3 := hidd (Nat.le_trans A2.out B3.out.size)
  clear hR3 hS3 hN3
  go_wp2_with fail
  refine (cL.out R3 _ _ HR3.out).mono ?_
  rintro e w4 ⟨rfl, hb4⟩
  have HR4 := hidd (HR3.out.below hb4)
  have B4 := hidd (hb4.mono A3.out)
  have A4 := hidd (Nat.le_trans A3.out hb4.size)
  clear hb4
  unfold agI iD kN kD tN
  have nr : Hid (∀ k, R3 k → k < w4.heap.size) := hidd HR4.out.lt
  go_wp2_with fail
  refine (cS.out R3 _ _ (HR4.out.below (by (repeat' (first | (with_reducible exact Below.refl _ _) | (with_reducible assumption) | (with_reducible apply Below.setCell) | (with_reducible apply Below.alloc) | (with_reducible apply Below.drew) | (with_reducible apply below_drewN) | (with_reducible refine Below.trans ?_ (Below.mono (by assumption) ?_)) | omega | (simp; done) | (simp; omega)))))).mono ?_
  rintro e w5 ⟨rfl, R5, hR5, hS5, hN5⟩
  have hsz5 : w4.heap.size < w5.heap.size := by have := hS5.size; simp at this; omega
  have x0 := (hS5.cell (p := ⟨w4.heap.size, 0, none⟩) (by simp) (fun q => by have := nr.out _ q; simp at this)).trans (show _ = some (Value.int .i64 3) by simp [go_sem])
  have B5 : Hid (Below w.heap.size w4 w5) := hidd (by
    have q := hS5.below (b := w.heap.size) (by have := A4.out; simp; omega) N3.out
    exact Below.trans (by have := A4.out; (repeat' (first | (with_reducible exact Below.refl _ _) | (with_reducible assumption) | (with_reducible apply Below.setCell) | (with_reducible apply Below.alloc) | (with_reducible apply Below.drew) | (with_reducible apply below_drewN) | (with_reducible refine Below.trans ?_ (Below.mono (by assumption) ?_)) | omega | (simp; done) | (simp; omega)))) q)
  have HR5 : Hid (HR R5 w5 _ k4 3) := hidd hR5
  have nr5 : Hid (¬ R5 w4.heap.size) := hidd (fun q => by
    have := nr.out _ (hN5 w4.heap.size (by simp) q)
    omega)
  have N5 : Hid (∀ k, R5 k → w.heap.size ≤ k) := hidd (fun k hk => by
    rcases Nat.lt_or_ge k w4.heap.size with q | q
    · exact N3.out k (hN5 k (by simp; omega) hk)
    · exact Nat.le_trans A4.out q)
  have A5 := hidd (Nat.le_trans A4.out (Nat.le_of_lt hsz5))
  clear hR5 hS5 hN5
  go_wp2_with fail
  refine (cT.out R5 _ _ HR5.out).mono ?_
  rintro e w6 ⟨rfl, R6, hR6, hS6, hN6⟩
  have hsz6 : w5.heap.size ≤ w6.heap.size := hS6.size
  have x1 := (hS6.cell (p := ⟨w4.heap.size, 0, none⟩) hsz5 nr5.out).trans x0
  have B6 := hidd (hS6.below A5.out N5.out)
  have HR6 : Hid (HR R6 w6 _ k5 3) := hidd hR6
  have hxl : w4.heap.size < w6.heap.size := by omega
  clear hR6 hS6 hN6 x0
  unfold agI iD kN kD tN
  go_wp2_with fail
  refine (cE.out R6 _ _ (HR6.out.below (by (repeat' (first | (with_reducible exact Below.refl _ _) | (with_reducible assumption) | (with_reducible apply Below.setCell) | (with_reducible apply Below.alloc) | (with_reducible apply Below.drew) | (with_reducible apply below_drewN) | (with_reducible refine Below.trans ?_ (Below.mono (by assumption) ?_)) | omega | (simp; done) | (simp; omega)))))).mono ?_
  rintro e w7 ⟨rfl, rfl⟩
  have BZ : Hid (Below w.heap.size w w6) := hidd ((((((B0.out.trans B1.out).trans B2.out).trans B3.out).trans B4.out).trans B5.out).trans B6.out)
  have AZ := A5.out
  have hlen : (k5.length : Int) = 2 := rfl
  go_wp2_with fail
  go_ret
  exact ⟨rfl, by have b := BZ.out; (repeat' (first | (with_reducible exact Below.refl _ _) | (with_reducible assumption) | (with_reducible apply Below.setCell) | (with_reducible apply Below.alloc) | (with_reducible apply Below.drew) | (with_reducible apply below_drewN) | (with_reducible refine Below.trans ?_ (Below.mono (by assumption) ?_)) | omega | (simp; done) | (simp; omega)))⟩
end Go.Proofs.Ytnjkfpjccedkjaa.Hp
