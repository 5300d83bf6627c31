/- Going over a list of fractions with a step: what is gathered. -/
import Derived.Test.YtgeankdimknmiaaRatPm
import Derived.Test.YtgeankdimknmiaaBgK
namespace Go.Proofs.Ytgeankdimknmiaa
set_option linter.unusedVariables false
open Go.RowKit

def foldR (f : Int × Int → Int × Int → Int × Int × Int) : Int × Int → List (Int × Int) → Int × Int × Int
  | a, [] => (a.1, a.2, 0)
  | a, x :: l => if (f a x).2.2 = 0 then foldR f ((f a x).1, (f a x).2.1) l else f a x
/-- a box of a fraction that may be written. -/
def GBox (w : World) (b : Nat) (x y : Int) : Prop :=
  b < w.heap.size ∧ w.cell? ⟨b, 0, none⟩ = some (.int .i64 x) ∧ w.cell? ⟨b, 1, none⟩ = some (.int .i64 y) ∧ w.frozen? ⟨b, 0, none⟩ = false ∧ w.frozen? ⟨b, 1, none⟩ = false
theorem GBox.step {w w' : World} {b : Nat} {x y : Int} (h : GBox w b x y) (hb : Below w.heap.size w w') : GBox w' b x y :=
  ⟨Nat.lt_of_lt_of_le h.1 hb.size, (hb.cell (p := ⟨b, 0, none⟩) h.1).trans h.2.1, (hb.cell (p := ⟨b, 1, none⟩) h.1).trans h.2.2.1, (hb.frozen (p := ⟨b, 0, none⟩) h.1).trans h.2.2.2.1, (hb.frozen (p := ⟨b, 1, none⟩) h.1).trans h.2.2.2.2⟩
theorem GBox.past {w : World} {b : Nat} {x y : Int} (h : GBox w b x y) (o : Obj) : GBox (w.alloc o) b x y := h.step ((Below.refl _ _).alloc (Nat.le_refl _) o)
theorem GBox.new {w : World} {b : Nat} (hb : w.heap.size = b) (t : TypeId) (x y : Int) : GBox (w.alloc (.cells #[.int .i64 x, .int .i64 y] t)) b x y := by
  subst hb
  exact ⟨by simp, by simp [go_sem], by simp [go_sem], by simp [go_sem], by simp [go_sem]⟩
theorem foldR_next {f : Int × Int → Int × Int → Int × Int × Int} {a : Int × Int} {l : List (Int × Int)} {i : Nat} (h : i < l.length) :
    foldR f a (l.drop i) = if (f a l[i]).2.2 = 0 then foldR f ((f a l[i]).1, (f a l[i]).2.1) (l.drop (i + 1)) else f a l[i] := by
  rw [List.drop_eq_getElem_cons h]
  rfl
/-- a list that lies in memory, or is empty. -/
def LiesO (w : World) (A : Option Addr) (l : List (Int × Int)) : Prop := 0 < l.length → ∃ ad, A = some ad ∧ ad.block < w.heap.size ∧ ∀ i (h : i < l.length), w.cell? (ad.add (i * 2)) = some (.int .i64 (l[i]'h).1) ∧ w.cell? ⟨(ad.add (i * 2)).block, (ad.add (i * 2)).off + 1, none⟩ = some (.int .i64 (l[i]'h).2)
theorem LiesO.below {w w' : World} {A : Option Addr} {l : List (Int × Int)} (h : LiesO w A l) (hb : Below w.heap.size w w') : LiesO w' A l := fun h0 => by
  obtain ⟨ad, e, hs, hl⟩ := h h0
  refine ⟨ad, e, Nat.lt_of_lt_of_le hs hb.size, fun i hi => ⟨(hb.cell (p := ad.add (i * 2)) ?_).trans (hl i hi).1, (hb.cell (p := ⟨(ad.add (i * 2)).block, _, none⟩) ?_).trans (hl i hi).2⟩⟩
  · rw [block_of_add]; exact hs
  · show (ad.add (i * 2)).block < _
    rw [block_of_add]; exact hs
theorem LiesO.nil (w : World) (A : Option Addr) : LiesO w A [] := fun h => absurd h (by simp)

set_option maxRecDepth 100000 in
set_option maxHeartbeats 4000000 in
theorem gather_any (K : Nat) (cap : Array Value) (he : ∀ args w, (callFunc K args).run Try.prog w = .ok (.enter K args) w) (f : Int × Int → Int × Int → Int × Int × Int) (G : Int × Int → Prop)
    (A : Option Addr) (l : List (Int × Int)) (c : Nat) (hm : l.length ≤ 1000000) (x0 y0 : Int) (w : World) (hl : LiesO w A l) (hG0 : G (x0, y0))
    (hG : ∀ a x, G a → x ∈ l → (f a x).2.2 = 0 → G ((f a x).1, (f a x).2.1))
    (cs : ∀ a x, G a → x ∈ l → ∀ W, Below w.heap.size w W → Calls Try.prog K (#[.agg #[.int .i64 a.1, .int .i64 a.2], .agg #[.int .i64 x.1, .int .i64 x.2]] ++ cap) W fun e w' => e = endOf (f a x) ∧ Below W.heap.size W w') :
    Calls Try.prog 70 #[.slice A l.length c, .agg #[.int .i64 x0, .int .i64 y0], .func (Fn.func K) #[] cap] w fun e w' => e = endOf (foldR f (x0, y0) l) ∧ Below w.heap.size w w' := by
  have HL := hidd hl
  have HG0 := hidd hG0
  have HGG := hidd hG
  have CS := hidd cs
  have hstart : foldR f (x0, y0) l = foldR f (x0, y0) (l.drop 0) := by simp
  have HST := hidd hstart
  have hnx := fun (a : Int × Int) (i : Nat) (h : i < l.length) => foldR_next (f := f) (a := a) h
  have HNX := hidd hnx
  generalize foldR f (x0, y0) l = R at *
  clear hl hG0 hG cs hstart hnx
  go_enter Try.func70, Try.ntmps70
  go_wp2_with fail
  go_loopg [11] (l.length + 1) (fun g s11 wr => ∃ (i : Nat) (a : Int × Int), i ≤ l.length ∧ i + g = l.length + 1 ∧ s11 = .int .i64 (i : Int) ∧ R = foldR f a (l.drop i) ∧ G a ∧ Below w.heap.size w wr ∧ GBox wr w.heap.size a.1 a.2 ∧ GBox wr (w.heap.size + 1) 0 0)
  case atStart => exact ⟨0, (x0, y0), by omega, by omega, by first | rfl | simp, HST.out, HG0.out, by (repeat' (first | (with_reducible exact Below.refl _ _) | (with_reducible assumption) | (with_reducible apply Below.setCell) | (with_reducible apply Below.alloc) | (with_reducible apply Below.drew) | (with_reducible apply below_drewN) | (with_reducible refine Below.trans ?_ (Below.mono (by assumption) ?_)) | omega | (simp; done) | (simp; omega))), (GBox.new rfl _ x0 y0).past _, GBox.new (by simp) _ 0 0⟩
  case round =>
    obtain ⟨i, a, hi1, hg, rfl, hR, hGa, hB, hX, hZ⟩ := hrel
    have HG := hidd hg
    have HR := hidd hR
    have HGa := hidd hGa
    have HB := hidd hB
    have HX := hidd hX
    have HZ := hidd hZ
    have hs := hB.size
    clear hg hR hGa hB hX hZ
    obtain ⟨xz, q0, q1, q2, q3⟩ := HX.out
    by_cases hlt : i < l.length
    · obtain ⟨ad, rfl, hbs, hll⟩ := (HL.out.below HB.out) (by omega)
      have hbs2 : (ad.add (i * 2)).block < wr.heap.size := by rw [block_of_add]; exact hbs
      obtain ⟨p0, p1⟩ := hll i hlt
      have cs := CS.out a (l[i]'hlt) HGa.out (List.getElem_mem hlt)
      have hnx := HNX.out a i hlt
      have hgn := HGG.out a (l[i]'hlt) HGa.out (List.getElem_mem hlt)
      have hin2 : (i : Int) < (l.length : Int) := by omega
      have hi0 : (0 : Int) ≤ (i : Int) := by omega
      generalize l[i]'hlt = x at *
      obtain ⟨r, hr⟩ : ∃ r, f a x = r := ⟨_, rfl⟩
      rw [hr] at cs hnx hgn
      have CSS := hidd cs
      have HN := hidd hnx
      have HGN := hidd hgn
      clear cs hnx hgn hr hll HX
      generalize x.1 = u at *
      generalize x.2 = v at *
      obtain ⟨a1, a2⟩ := a
      dsimp only at q0 q1
      by_cases h0 : r.2.2 = 0
      · have CSE := hidd (fun W hW => by have := CSS.out W hW; rw [endOf_ok r h0] at this; exact this)
        have hRN := HR.out
        rw [HN.out, if_pos h0] at hRN
        have HRN := hidd hRN
        have HGR := hidd (HGN.out h0)
        clear h0 hRN CSS HN HR HGN
        go_wp2_with fail
        refine (CSE.out _ (by have := HB.out; (repeat' (first | (with_reducible exact Below.refl _ _) | (with_reducible assumption) | (with_reducible apply Below.setCell) | (with_reducible apply Below.alloc) | (with_reducible apply Below.drew) | (with_reducible apply below_drewN) | (with_reducible refine Below.trans ?_ (Below.mono (by assumption) ?_)) | omega | (simp; done) | (simp; omega))))).mono ?_
        rintro e w1 ⟨rfl, hb1⟩
        have hX1 := (((show GBox wr w.heap.size a1 a2 from ⟨xz, q0, q1, q2, q3⟩)).past _).step hb1
        have hZ1 := (HZ.out.past _).step hb1
        have HB1 := hidd (below_step (below_new HB.out _) hb1)
        clear p0 p1 q0 q1 q2 q3 hb1
        obtain ⟨uz, u0, u1, v0, v1⟩ := hX1
        have HZ1 := hidd hZ1
        clear hZ1
        go_wp2_with fail
        have hg := HG.out
        go_roundg (gk - 1)
        case measure => omega
        case rel =>
          refine ⟨i + 1, (r.1, r.2.1), by omega, by omega, by go_num, HRN.out, HGR.out, by have := HB1.out; (repeat' (first | (with_reducible exact Below.refl _ _) | (with_reducible assumption) | (with_reducible apply Below.setCell) | (with_reducible apply Below.alloc) | (with_reducible apply Below.drew) | (with_reducible apply below_drewN) | (with_reducible refine Below.trans ?_ (Below.mono (by assumption) ?_)) | omega | (simp; done) | (simp; omega))), ?_, ?_⟩
          · exact ⟨by simp; omega, by simp [go_sem, *], by simp [go_sem, *], by simp [go_sem, *], by simp [go_sem, *]⟩
          · obtain ⟨tz, t0, t1, t2, t3⟩ := HZ1.out
            exact ⟨by simp; omega, by simp [go_sem, *], by simp [go_sem, *], by simp [go_sem, *], by simp [go_sem, *]⟩
      · have CSE := hidd (fun W hW => by have := CSS.out W hW; rw [endOf_no r h0] at this; exact this)
        have hRN := HR.out
        rw [HN.out, if_neg h0] at hRN
        have HRN := hidd (show endOf R = errPanic r.2.2 by rw [hRN]; exact endOf_no r h0)
        clear h0 hRN CSS HN HR HGN
        go_wp2_with fail
        refine (CSE.out _ (by have := HB.out; (repeat' (first | (with_reducible exact Below.refl _ _) | (with_reducible assumption) | (with_reducible apply Below.setCell) | (with_reducible apply Below.alloc) | (with_reducible apply Below.drew) | (with_reducible apply below_drewN) | (with_reducible refine Below.trans ?_ (Below.mono (by assumption) ?_)) | omega | (simp; done) | (simp; omega))))).mono ?_
        rintro e w1 ⟨rfl, hb1⟩
        have HB1 := hidd (below_step (below_new HB.out _) hb1)
        clear hb1
        go_wp2_with fail
        exact ⟨by first | rfl | simp, HRN.out.symm, HB1.out⟩
    · obtain rfl : i = l.length := by omega
      obtain ⟨zz, z0, z1, z2, z3⟩ := HZ.out
      have HRE := hidd (show endOf R = .returned (.agg #[.int .i64 a.1, .int .i64 a.2]) by rw [HR.out]; simp [foldR, endOf])
      clear HZ HX
      obtain ⟨a1, a2⟩ := a
      dsimp only at q0 q1
      go_wp2_with fail
      exact bodyPost_ret (v := .agg #[.int .i64 a1, .int .i64 a2]) (by simp [results, Try.results70, go_sem, *]) rfl ⟨HRE.out.symm, by have := HB.out; (repeat' (first | (with_reducible exact Below.refl _ _) | (with_reducible assumption) | (with_reducible apply Below.setCell) | (with_reducible apply Below.alloc) | (with_reducible apply Below.drew) | (with_reducible apply below_drewN) | (with_reducible refine Below.trans ?_ (Below.mono (by assumption) ?_)) | omega | (simp; done) | (simp; omega)))⟩
end Go.Proofs.Ytgeankdimknmiaa
