/- The joint spec of two, and the sum of two. -/
import Derived.Test.YtjmppeofdnikoaaSpH
import Derived.Test.YtjmppeofdnikoaaRowK
import Derived.BigRegion
namespace Go.Proofs.Ytjmppeofdnikoaa
open Go.RowKit RowK

def mx (x y : Int) : Int := if y > x then y else x
def mn (x y : Int) : Int := if y < x then y else x
def specA (a : Spc) : Value := .agg #[.int .i64 a.1, .int .i64 a.2.1, .int .i64 a.2.2.1, .int .i64 a.2.2.2.1, .int .i64 a.2.2.2.2]
def jointV (a b : Spc) : Spc := (mx a.1 b.1, mx a.2.1 b.2.1, mx a.2.2.1 b.2.2.1, mx a.2.2.2.1 b.2.2.2.1, mn a.2.2.2.2 b.2.2.2.2)
def sumV (a b : Spc) : Spc := (wrap64 (a.1 + b.1), wrap64 (a.2.1 + b.2.1), wrap64 (a.2.2.1 + b.2.2.1), mx a.2.2.2.1 b.2.2.2.1, mn a.2.2.2.2 b.2.2.2.2)
theorem numbers_any (p r u m l : Int) (w : World) : Calls Try.prog 66 #[.agg #[.int .i64 p, .int .i64 r, .int .i64 u, .int .i64 m, .int .i64 l]] w fun e w' => e = .returned (.agg #[.int .i64 p, .int .i64 r, .int .i64 u, .int .i64 m, .int .i64 l]) ∧ Below w.heap.size w w' := by
  go_enter Try.func66, Try.ntmps66
  go_wp2_with fail
  exact bodyPost_ret (v := .agg #[.int .i64 p, .int .i64 r, .int .i64 u, .int .i64 m, .int .i64 l]) (by simp [results, Try.results66, go_sem]) rfl ⟨rfl, by (repeat' (first | (with_reducible exact Below.refl _ _) | (with_reducible assumption) | (with_reducible apply Below.setCell) | (with_reducible apply Below.alloc) | (with_reducible apply Below.drew) | (with_reducible apply below_drewN) | (with_reducible refine Below.trans ?_ (Below.mono (by assumption) ?_)) | omega | (simp; done) | (simp; omega)))⟩
set_option maxRecDepth 100000 in
theorem five0 (a b c d e : Value) (w : World) : (Instr.index 96 (.agg #[a, b, c, d, e]) (.int .i64 0)).run Try.prog w = .ok a w := by first | rfl | kernel_rfl
set_option maxRecDepth 100000 in
theorem five1 (a b c d e : Value) (w : World) : (Instr.index 96 (.agg #[a, b, c, d, e]) (.int .i64 1)).run Try.prog w = .ok b w := by first | rfl | kernel_rfl
set_option maxRecDepth 100000 in
theorem five2 (a b c d e : Value) (w : World) : (Instr.index 96 (.agg #[a, b, c, d, e]) (.int .i64 2)).run Try.prog w = .ok c w := by first | rfl | kernel_rfl
set_option maxRecDepth 100000 in
theorem five3 (a b c d e : Value) (w : World) : (Instr.index 96 (.agg #[a, b, c, d, e]) (.int .i64 3)).run Try.prog w = .ok d w := by first | rfl | kernel_rfl
set_option maxRecDepth 100000 in
theorem five4 (a b c d e : Value) (w : World) : (Instr.index 96 (.agg #[a, b, c, d, e]) (.int .i64 4)).run Try.prog w = .ok e w := by first | rfl | kernel_rfl
set_option maxHeartbeats 4000000 in
theorem joint_any (a b : Spc) (w : World) : Calls Try.prog 45 #[specA a, specA b] w fun e w' => e = .returned (specA (jointV a b)) ∧ Below w.heap.size w w' := by
  obtain ⟨a0, a1, a2, a3, a4⟩ := a
  obtain ⟨b0, b1, b2, b3, b4⟩ := b
  unfold specA jointV mx mn
  dsimp only
  have cn := hidd (fun p r u m l W => numbers_any p r u m l W)
  have hi0 := fun a b c d e w => five0 a b c d e w
  have hi1 := fun a b c d e w => five1 a b c d e w
  have hi2 := fun a b c d e w => five2 a b c d e w
  have hi3 := fun a b c d e w => five3 a b c d e w
  have hi4 := fun a b c d e w => five4 a b c d e w
  generalize g0 : (if b0 > a0 then b0 else a0) = M0
  generalize g1 : (if b1 > a1 then b1 else a1) = M1
  generalize g2 : (if b2 > a2 then b2 else a2) = M2
  generalize g3 : (if b3 > a3 then b3 else a3) = M3
  generalize g4 : (if b4 < a4 then b4 else a4) = M4
  obtain ⟨M5, g5⟩ : ∃ M, (if b4 > a4 then b4 else a4) = M := ⟨_, rfl⟩
  have k5 : (if a4 < b4 then b4 else a4) = M5 := g5
  have k0 : (if a0 < b0 then b0 else a0) = M0 := g0
  have k1 : (if a1 < b1 then b1 else a1) = M1 := g1
  have k2 : (if a2 < b2 then b2 else a2) = M2 := g2
  have k3 : (if a3 < b3 then b3 else a3) = M3 := g3
  go_enter Try.func45, Try.ntmps45
  go_wp2_with fail
  refine (cn.out _ _ _ _ _ _).mono ?_
  rintro e w1 ⟨rfl, hb1⟩
  obtain ⟨bc1, bf1⟩ := bcell hb1
  have z1 := hb1.size
  simp at z1
  have y0 : w.heap.size < w1.heap.size := by omega
  have y1 : w.heap.size + 1 < w1.heap.size := by omega
  have y2 : w.heap.size + 1 + 1 < w1.heap.size := by omega
  go_wp2_with fail
  refine (cn.out _ _ _ _ _ _).mono ?_
  rintro e w2 ⟨rfl, hb2⟩
  obtain ⟨bc2, bf2⟩ := bcell hb2
  have z2 := hb2.size
  simp at z2
  have x0 : w.heap.size < w2.heap.size := by omega
  have x1 : w.heap.size + 1 < w2.heap.size := by omega
  have x2 : w.heap.size + 1 + 1 < w2.heap.size := by omega
  have x3 : w1.heap.size < w2.heap.size := by omega
  have e0 : w2.cell? ⟨w1.heap.size, 0, none⟩ = some (.int .i64 a0) := by rw [bc2 _ _ (by (first | omega | (simp; done) | (simp; omega)))]; simp [go_sem]
  have e1 : w2.cell? ⟨w1.heap.size, 1, none⟩ = some (.int .i64 a1) := by rw [bc2 _ _ (by (first | omega | (simp; done) | (simp; omega)))]; simp [go_sem]
  have e2 : w2.cell? ⟨w1.heap.size, 2, none⟩ = some (.int .i64 a2) := by rw [bc2 _ _ (by (first | omega | (simp; done) | (simp; omega)))]; simp [go_sem]
  have e3 : w2.cell? ⟨w1.heap.size, 3, none⟩ = some (.int .i64 a3) := by rw [bc2 _ _ (by (first | omega | (simp; done) | (simp; omega)))]; simp [go_sem]
  have e4 : w2.cell? ⟨w1.heap.size, 4, none⟩ = some (.int .i64 a4) := by rw [bc2 _ _ (by (first | omega | (simp; done) | (simp; omega)))]; simp [go_sem]
  go_wp2_with fail
  refine wp_loop_rounds 6 ?_
  rw [rounds_succ]
  go_wp2_with fail
  rw [rounds_succ]
  go_wp2_with fail
  rw [rounds_succ]
  go_wp2_with fail
  rw [rounds_succ]
  go_wp2_with fail
  rw [rounds_succ]
  go_wp2_with fail
  rw [rounds_succ]
  go_wp2_with fail
  exact bodyPost_ret (v := .agg #[.int .i64 M0, .int .i64 M1, .int .i64 M2, .int .i64 M3, .int .i64 M4]) (by simp [results, Try.results45, go_sem, *]) rfl ⟨rfl, by (repeat' (first | (with_reducible exact Below.refl _ _) | (with_reducible assumption) | (with_reducible apply Below.setCell) | (with_reducible apply Below.alloc) | (with_reducible apply Below.drew) | (with_reducible apply below_drewN) | (with_reducible refine Below.trans ?_ (Below.mono (by assumption) ?_)) | omega | (simp; done) | (simp; omega)))⟩

set_option maxHeartbeats 4000000 in
theorem sum1_any (a b : Spc) (w : World) : Calls Try.prog 44 #[specA a, specA b] w fun e w' => e = .returned (specA (sumV a b)) ∧ Below w.heap.size w w' := by
  have cj := hidd (fun W => joint_any a b W)
  obtain ⟨a0, a1, a2, a3, a4⟩ := a
  obtain ⟨b0, b1, b2, b3, b4⟩ := b
  unfold specA jointV at cj
  unfold specA sumV
  dsimp only at cj ⊢
  generalize mx a0 b0 = M0 at *
  generalize mx a1 b1 = M1 at *
  generalize mx a2 b2 = M2 at *
  generalize mx a3 b3 = M3 at *
  generalize mn a4 b4 = M4 at *
  go_enter Try.func44, Try.ntmps44
  go_wp2_with fail
  refine (cj.out _).mono ?_
  rintro e w1 ⟨rfl, hb1⟩
  obtain ⟨bc1, bf1⟩ := bcell hb1
  have z1 := hb1.size
  simp at z1
  have y0 : w.heap.size < w1.heap.size := by omega
  have y1 : w.heap.size + 1 < w1.heap.size := by omega
  have y2 : w.heap.size + 1 + 1 < w1.heap.size := by omega
  have e0 : w1.cell? ⟨w.heap.size, 0, none⟩ = some (.int .i64 a0) := by rw [bc1 _ _ (by (first | omega | (simp; done) | (simp; omega)))]; simp [go_sem]
  have e1 : w1.cell? ⟨w.heap.size, 1, none⟩ = some (.int .i64 a1) := by rw [bc1 _ _ (by (first | omega | (simp; done) | (simp; omega)))]; simp [go_sem]
  have e2 : w1.cell? ⟨w.heap.size, 2, none⟩ = some (.int .i64 a2) := by rw [bc1 _ _ (by (first | omega | (simp; done) | (simp; omega)))]; simp [go_sem]
  have f0 : w1.cell? ⟨w.heap.size + 1, 0, none⟩ = some (.int .i64 b0) := by rw [bc1 _ _ (by (first | omega | (simp; done) | (simp; omega)))]; simp [go_sem]
  have f1 : w1.cell? ⟨w.heap.size + 1, 1, none⟩ = some (.int .i64 b1) := by rw [bc1 _ _ (by (first | omega | (simp; done) | (simp; omega)))]; simp [go_sem]
  have f2 : w1.cell? ⟨w.heap.size + 1, 2, none⟩ = some (.int .i64 b2) := by rw [bc1 _ _ (by (first | omega | (simp; done) | (simp; omega)))]; simp [go_sem]
  go_wp2_with fail
  go_region
  go_wp2_with fail
  exact bodyPost_ret (v := .agg #[.int .i64 (wrap64 (a0 + b0)), .int .i64 (wrap64 (a1 + b1)), .int .i64 (wrap64 (a2 + b2)), .int .i64 M3, .int .i64 M4]) (by simp [results, Try.results44, go_sem, *]) rfl ⟨rfl, by (repeat' (first | (with_reducible exact Below.refl _ _) | (with_reducible assumption) | (with_reducible apply Below.setCell) | (with_reducible apply Below.alloc) | (with_reducible apply Below.drew) | (with_reducible apply below_drewN) | (with_reducible refine Below.trans ?_ (Below.mono (by assumption) ?_)) | omega | (simp; done) | (simp; omega)))⟩
end Go.Proofs.Ytjmppeofdnikoaa
