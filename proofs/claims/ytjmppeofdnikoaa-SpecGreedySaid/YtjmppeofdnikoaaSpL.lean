/- Some specs brought together. -/
import Derived.Test.YtjmppeofdnikoaaSpK
namespace Go.Proofs.Ytjmppeofdnikoaa
open Go.RowKit RowK

/-- the first n + 1, brought together. -/
def acc (two : Spc → Spc → Spc) (L : List Spc) : Nat → Spc
  | 0 => spAt L 0
  | n + 1 => two (acc two L n) (spAt L (n + 1))
theorem spec_eta (a : Spc) : Value.agg #[.int .i64 a.1, .int .i64 a.2.1, .int .i64 a.2.2.1, .int .i64 a.2.2.2.1, .int .i64 a.2.2.2.2] = specA a := rfl

theorem Lie.tail {w : World} {B : Nat} {ad : Addr} {L : List Spc} (h : Lie specV 5 w B (some ad) L) : Lie specV 5 w B (some ⟨ad.block, ad.off + 5, none⟩) L.tail := fun hl => by
  obtain ⟨ad', e, hB, hc⟩ := h (by cases L <;> simp_all)
  obtain rfl : ad = ad' := by injection e
  refine ⟨_, rfl, hB, fun i x hx j v hv => ?_⟩
  have e2 : Addr.add ⟨ad.block, ad.off + 5, none⟩ (i * 5 + j) = ad.add ((i + 1) * 5 + j) := by
    have : (⟨ad.block, ad.off + 5, none⟩ : Addr) = ad.add 5 := rfl
    rw [this, add_of_add]; congr 1; omega
  rw [e2]
  exact hc (i + 1) x (by rw [← hx]; cases L <;> simp) j v hv
theorem spAt_tail (L : List Spc) (i : Nat) : spAt L.tail i = spAt L (i + 1) := by
  cases L <;> simp [spAt, List.getD_eq_getElem?_getD]
/-- a box of a spec that may be written. -/
def Box (w : World) (b : Nat) (x : Spc) : Prop :=
  HasSpec w b x.1 x.2.1 x.2.2.1 x.2.2.2.1 x.2.2.2.2 ∧ w.frozen? ⟨b, 0, none⟩ = false ∧ w.frozen? ⟨b, 1, none⟩ = false ∧ w.frozen? ⟨b, 2, none⟩ = false ∧ w.frozen? ⟨b, 3, none⟩ = false ∧ w.frozen? ⟨b, 4, none⟩ = false
theorem Box.step {w w' : World} {b : Nat} {x : Spc} (h : Box w b x) (hb : Below w.heap.size w w') : Box w' b x := by
  have hz := h.1.1
  exact ⟨h.1.step hb, (hb.frozen (p := ⟨b, 0, none⟩) hz).trans h.2.1, (hb.frozen (p := ⟨b, 1, none⟩) hz).trans h.2.2.1, (hb.frozen (p := ⟨b, 2, none⟩) hz).trans h.2.2.2.1, (hb.frozen (p := ⟨b, 3, none⟩) hz).trans h.2.2.2.2.1, (hb.frozen (p := ⟨b, 4, none⟩) hz).trans h.2.2.2.2.2⟩
theorem Box.past {w : World} {b : Nat} {x : Spc} (h : Box w b x) (o : Obj) : Box (w.alloc o) b x := h.step ((Below.refl _ _).alloc (Nat.le_refl _) o)
theorem Box.new (w : World) (t : TypeId) (p r u m l : Int) : Box (w.alloc (.cells #[.int .i64 p, .int .i64 r, .int .i64 u, .int .i64 m, .int .i64 l] t)) w.heap.size (p, r, u, m, l) :=
  ⟨HasSpec.new w t p r u m l, by simp [go_sem], by simp [go_sem], by simp [go_sem], by simp [go_sem], by simp [go_sem]⟩

theorem Box.new' {w : World} {b : Nat} (hb : w.heap.size = b) (t : TypeId) (x : Spc) : Box (w.alloc (.cells #[.int .i64 x.1, .int .i64 x.2.1, .int .i64 x.2.2.1, .int .i64 x.2.2.2.1, .int .i64 x.2.2.2.2] t)) b x := by
  subst hb; exact Box.new w t x.1 x.2.1 x.2.2.1 x.2.2.2.1 x.2.2.2.2
theorem add_plain (b o n : Nat) : Addr.add ⟨b, o, none⟩ n = ⟨b, o + n, none⟩ := by
  unfold Addr.add; split <;> simp_all
set_option maxHeartbeats 4000000 in
theorem together_any (K : Nat) (two : Spc → Spc → Spc) (he : ∀ args w, (callFunc K args).run Try.prog w = .ok (.enter K args) w)
    (ct : ∀ a b W, Calls Try.prog K #[specA a, specA b] W fun e w' => e = .returned (specA (two a b)) ∧ Below W.heap.size W w')
    (A : Option Addr) (L : List Spc) (n c : Nat) (hn : L.length = n + 1) (hm : n ≤ 1000000) (hc : n + 1 ≤ c) (hx : c ≤ maxLen) (w : World) (hl : Lie specV 5 w w.heap.size A L) :
    Calls Try.prog 43 #[.slice A (n + 1 : Nat) c, .func (Fn.func K) #[] #[]] w fun e w' => e = .returned (specA (acc two L n)) ∧ Below w.heap.size w w' := by
  unfold maxLen at hx
  have HL := hidd hl
  have HN := hidd hn
  have CT := hidd ct
  clear hl hn ct
  obtain ⟨ad, rfl, hadb, x0, x1, x2, x3, x4⟩ := HL.out.spec 0 (by rw [HN.out]; omega)
  have ea : ad.add (0 * 5) = ad := rfl
  rw [ea] at hadb x0 x1 x2 x3 x4
  clear ea
  by_cases hc1 : c = 1
  · obtain rfl : n = 0 := by omega
    subst hc1
    generalize ha0 : spAt L 0 = a0 at *
    have HA0 := hidd ha0
    clear ha0
    go_enter Try.func43, Try.ntmps43
    go_wp2_with fail
    refine wp_loop_rounds 1 ?_
    rw [rounds_succ]
    go_wp2_with fail
    refine bodyPost_ret (v := specA a0) (by simp [results, Try.results43, go_sem, specA]) rfl ⟨by rw [← HA0.out]; rfl, by (repeat' (first | (with_reducible exact Below.refl _ _) | (with_reducible assumption) | (with_reducible apply Below.setCell) | (with_reducible apply Below.alloc) | (with_reducible apply Below.drew) | (with_reducible apply below_drewN) | (with_reducible refine Below.trans ?_ (Below.mono (by assumption) ?_)) | omega | (simp; done) | (simp; omega)))⟩
  · have HT := hidd (HL.out.tail)
    go_enter Try.func43, Try.ntmps43
    go_wp2_with fail
    go_loopg [14] (n + 1) (fun g s14 wr => ∃ i : Nat, i ≤ n ∧ i + g = n + 1 ∧ s14 = .int .i64 (i : Int) ∧ Below w.heap.size w wr ∧ Box wr (w.heap.size + 1) (acc two L i) ∧ Box wr w.heap.size (0, 0, 0, 0, 0))
    case atStart => exact ⟨0, by omega, by omega, rfl, by (repeat' (first | (with_reducible exact Below.refl _ _) | (with_reducible assumption) | (with_reducible apply Below.setCell) | (with_reducible apply Below.alloc) | (with_reducible apply Below.drew) | (with_reducible apply below_drewN) | (with_reducible refine Below.trans ?_ (Below.mono (by assumption) ?_)) | omega | (simp; done) | (simp; omega))), Box.new' (by simp) _ (spAt L 0), (Box.new' rfl _ (0, 0, 0, 0, 0)).past _⟩
    case round =>
      obtain ⟨i, hi, hk, rfl, hB, hX, hZ⟩ := hrel
      have HK := hidd hk
      have HB := hidd hB
      have hs := hB.size
      have HZ := hidd hZ
      clear hk hB
      obtain ⟨⟨yz, y0, y1, y2, y3, y4⟩, f0, f1, f2, f3, f4⟩ := hX
      have hacc : Hid (∀ a b r, acc two L i = a → spAt L (i + 1) = b → two a b = r → acc two L (i + 1) = r) := hidd (by rintro a b r rfl rfl rfl; rfl)
      generalize ga : acc two L i = a at *
      have GA := hidd ga
      clear ga
      by_cases hlt : i < n
      · obtain ⟨ad', e', hb', x0, x1, x2, x3, x4⟩ := (HT.out.keep HB.out).spec i (by rw [List.length_tail, HN.out]; exact hlt)
        obtain rfl : (⟨ad.block, ad.off + 5, none⟩ : Addr) = ad' := by injection e'
        rw [spAt_tail, add_plain] at x0 x1 x2 x3 x4
        rw [add_plain] at hb'
        dsimp only at x0 x1 x2 x3 x4 hb'
        generalize gb : spAt L (i + 1) = b at *
        have GB := hidd gb
        clear e' hZ gb
        have cs := hidd (fun W => CT.out a b W)
        unfold specA at cs
        generalize gr : two a b = r at *
        have GR := hidd gr
        clear gr
        go_wp2_with fail
        refine (cs.out _).mono ?_
        rintro e w1 ⟨rfl, hb1⟩
        have hX1 := (((show Box wr (w.heap.size + 1) a from ⟨⟨yz, y0, y1, y2, y3, y4⟩, f0, f1, f2, f3, f4⟩)).past _).step hb1
        have hZ1 := (HZ.out.past _).step hb1
        obtain ⟨⟨uz, u0, u1, u2, u3, u4⟩, v0, v1, v2, v3, v4⟩ := hX1
        have hB1 := below_step (below_new HB.out _) hb1
        have HZ1 := hidd hZ1
        have HB1 := hidd hB1
        clear x0 x1 x2 x3 x4 y0 y1 y2 y3 y4 f0 f1 f2 f3 f4 hZ1 hB1
        go_wp2_with fail
        have hk := HK.out
        go_roundg (gk - 1)
        case measure => omega
        case rel =>
          refine ⟨i + 1, by omega, by omega, by go_num, by have := HB1.out; (repeat' (first | (with_reducible exact Below.refl _ _) | (with_reducible assumption) | (with_reducible apply Below.setCell) | (with_reducible apply Below.alloc) | (with_reducible apply Below.drew) | (with_reducible apply below_drewN) | (with_reducible refine Below.trans ?_ (Below.mono (by assumption) ?_)) | omega | (simp; done) | (simp; omega))), ?_, ?_⟩
          · rw [hacc.out a b r (by first | rfl | exact GA.out) (by first | rfl | exact GB.out) GR.out]
            exact ⟨⟨by simpa using uz, by simp [go_sem, *], by simp [go_sem, *], by simp [go_sem, *], by simp [go_sem, *], by simp [go_sem, *]⟩, by simp [go_sem, *], by simp [go_sem, *], by simp [go_sem, *], by simp [go_sem, *], by simp [go_sem, *]⟩
          · obtain ⟨⟨uz, u0, u1, u2, u3, u4⟩, v0, v1, v2, v3, v4⟩ := HZ1.out
            exact ⟨⟨by simpa using uz, by simp [go_sem, *], by simp [go_sem, *], by simp [go_sem, *], by simp [go_sem, *], by simp [go_sem, *]⟩, by simp [go_sem, *], by simp [go_sem, *], by simp [go_sem, *], by simp [go_sem, *], by simp [go_sem, *]⟩
      · obtain ⟨⟨uz, u0, u1, u2, u3, u4⟩, v0, v1, v2, v3, v4⟩ := hZ
        obtain rfl : i = n := by omega
        go_wp2_with fail
        refine bodyPost_ret (v := specA a) (by simp [results, Try.results43, go_sem, specA, *]) rfl ⟨by rw [GA.out], by have := HB.out; (repeat' (first | (with_reducible exact Below.refl _ _) | (with_reducible assumption) | (with_reducible apply Below.setCell) | (with_reducible apply Below.alloc) | (with_reducible apply Below.drew) | (with_reducible apply below_drewN) | (with_reducible refine Below.trans ?_ (Below.mono (by assumption) ?_)) | omega | (simp; done) | (simp; omega)))⟩
end Go.Proofs.Ytjmppeofdnikoaa
