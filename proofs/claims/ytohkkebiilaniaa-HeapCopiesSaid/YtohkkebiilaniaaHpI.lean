/- Heaps: Set. -/
import Derived.Test.YtohkkebiilaniaaHpH
namespace Go.Proofs.Ytohkkebiilaniaa.Hp
set_option linter.unusedVariables false
open Go.RowKit Go.Maps Go.Sort Go.Proofs.Ytohkkebiilaniaa.Tp

set_option maxHeartbeats 2000000 in
theorem set_bad {h mb : Nat} (id n d : Int) (h0 : -9223372036854775808 ≤ n) (h1 : n ≤ 9223372036854775807) (h2 : -9223372036854775808 ≤ d) (h3 : d ≤ 9223372036854775807) (hb : mayB id n d = false) (w : World) (hc : w.cell? ⟨h, 0, none⟩ = some (.map (some mb))) :
    Calls Try.prog 17 #[.pointer (some ⟨h, 0, none⟩), .int .i64 id, .agg #[.int .i64 n, .int .i64 d]] w fun e w' => e = .returned (.int .i64 2) ∧ Below w.heap.size w w' := by
  have hl := block_lt_of_cell hc
  have c := hidd (fun W a b => check_at h mb id n d h0 h1 h2 h3 W a b)
  rw [hb] at c
  go_enter Try.func17, Try.ntmps17
  go_wp2_with fail
  refine (c.out _ (by simp [go_sem, hc, hl]) (by simp; omega)).mono ?_
  rintro e w1 ⟨rfl, hb1⟩
  go_wp2_with fail
  go_ret
  exact ⟨rfl, by (repeat' (first | (with_reducible exact Below.refl _ _) | (with_reducible assumption) | (with_reducible apply Below.setCell) | (with_reducible apply Below.alloc) | (with_reducible apply Below.drew) | (with_reducible apply below_drewN) | (with_reducible refine Below.trans ?_ (Below.mono (by assumption) ?_)) | omega | (simp; done) | (simp; omega)))⟩
theorem set_zero (h : Nat) (id n d : Int) (w : World) (hc : w.cell? ⟨h, 0, none⟩ = some (.map none)) : Calls Try.prog 17 #[.pointer (some ⟨h, 0, none⟩), .int .i64 id, .agg #[.int .i64 n, .int .i64 d]] w fun e w' => e = .returned (.int .i64 1) ∧ Below w.heap.size w w' := by
  have hl := block_lt_of_cell hc
  have c := hidd (fun W a b => check_zero h id n d W a b)
  go_enter Try.func17, Try.ntmps17
  go_wp2_with fail
  refine (c.out _ (by simp [go_sem, hc, hl]) (by simp; omega)).mono ?_
  rintro e w1 ⟨rfl, hb1⟩
  go_wp2_with fail
  go_ret
  exact ⟨rfl, by (repeat' (first | (with_reducible exact Below.refl _ _) | (with_reducible assumption) | (with_reducible apply Below.setCell) | (with_reducible apply Below.alloc) | (with_reducible apply Below.drew) | (with_reducible apply below_drewN) | (with_reducible refine Below.trans ?_ (Below.mono (by assumption) ?_)) | omega | (simp; done) | (simp; omega)))⟩
set_option maxHeartbeats 4000000 in
theorem set_none {h mb : Nat} {v : Value} {L : List It} {T : Int} {D : DataW Unit} (id n d : Int) (h0 : -9223372036854775808 ≤ n) (h1 : n ≤ 9223372036854775807) (h2 : -9223372036854775808 ≤ d) (h3 : d ≤ 9223372036854775807) (hb : mayB id n d = true) (hi : In D id = false) (w : World) (H : HpAt w h mb v L T D) :
    Calls Try.prog 17 #[.pointer (some ⟨h, 0, none⟩), .int .i64 id, .agg #[.int .i64 n, .int .i64 d]] w fun e w' => e = .returned (.int .i64 5) ∧ Below w.heap.size w w' := by
  have hl := H.lt
  have hc := H.c0
  have c := hidd (fun W a b => check_at h mb id n d h0 h1 h2 h3 W a b)
  rw [hb] at c
  have hr := (mayB_iff _ _ _).1 hb
  have cf := hidd (fun W hm => find_any mb D id (by omega) (by omega) W hm)
  rw [hi] at cf
  have HH := hidd H
  generalize look D id = z at *
  clear H hb hi hr
  go_enter Try.func17, Try.ntmps17
  go_wp2_with fail
  refine (c.out _ (by simp [go_sem, hc, hl]) (by simp; omega)).mono ?_
  rintro e w1 ⟨rfl, hb1⟩
  have HB1 := hidd (below_step (below_new (Below.refl w.heap.size w) _) hb1)
  have hc1 := (HB1.out.cell (p := ⟨h, 0, none⟩) hl).trans hc
  clear hb1
  go_wp2_with fail
  refine (cf.out _ (HH.out.below HB1.out).map).mono ?_
  rintro e w2 ⟨rfl, rfl⟩
  go_wp2_with fail
  go_ret
  exact ⟨rfl, HB1.out⟩
theorem keyed_ok {x : It} (hx : OkI x) {n d : Int} (h0 : -9223372036854775808 ≤ n) (h1 : n ≤ 9223372036854775807) (h2 : -9223372036854775808 ≤ d) (h3 : d ≤ 9223372036854775807) (hr : rightB n d = true) : OkI (keyed x n d) := ⟨h0, h1, h2, h3, hr, hx.i0, hx.i1, hx.t0, hx.t1⟩
set_option maxHeartbeats 8000000 in
set_option maxRecDepth 100000 in
theorem set_ok {h mb : Nat} {v : Value} {L : List It} {T : Int} {D : DataW Unit} (i : Nat) (hi : i < L.length) (n d : Int) (h0 : -9223372036854775808 ≤ n) (h1 : n ≤ 9223372036854775807) (h2 : -9223372036854775808 ≤ d) (h3 : d ≤ 9223372036854775807) (hb : rightB n d = true) (w : World) (H : Hp w h mb v L T D) :
    Calls Try.prog 17 #[.pointer (some ⟨h, 0, none⟩), .int .i64 (iD (gI L i)), .agg #[.int .i64 n, .int .i64 d]] w fun e w' => e = .returned (.int .i64 0) ∧ (∃ L' D', L'.Perm (L.set i (keyed (gI L i) n d)) ∧ Hp w' h mb v L' T D') ∧ Sav (Blk h mb v) w w' := by
  have okx := H.ok.at_ hi
  have hmay : mayB (iD (gI L i)) n d = true := (mayB_iff _ _ _).2 ⟨okx.i0, okx.i1, hb⟩
  have hl := H.at_.lt
  have hml := H.at_.mlt
  have hc := H.at_.c0
  have hc1 := H.at_.c1
  obtain ⟨g, k, hv, _, hg, hlk, hkm, hgf, _⟩ := OwnL.form H.at_.own (by omega)
  have hne : g ≠ h := fun e => H.at_.ne (by rw [hv, ← e]; rfl)
  have hgm : mb ≠ g := fun e => H.at_.vm (by rw [hv, e]; rfl)
  have c := hidd (fun W a b => check_at h mb (iD (gI L i)) n d h0 h1 h2 h3 W a b)
  rw [hmay] at c
  have cf := hidd (fun W hm => find_any mb D (iD (gI L i)) (by have := okx.i0; omega) (by have := okx.i1; omega) W hm)
  have hat := H.pl.at_ hi
  rw [hat.1, hat.2] at cf
  have HH := hidd H
  have OKX := hidd (keyed_ok okx h0 h1 h2 h3 hb)
  have z1 : (0 : Int) ≤ (i : Int) := by omega
  have z2 : (i : Int) < (L.length : Int) := by omega
  have cS := hidd (fun (L' : List It) (W : World) (m : Nat) (hm : m < L'.length) (H' : HpN W h mb v L' T D m) (ho : Off L' m) => settle_any m hm W H' ho)
  have HIN := hidd hat.1
  clear H hb hat okx hmay
  generalize hx : keyed (gI L i) n d = x at *
  have HX := hidd hx
  clear hx
  have HID : Hid (iD x = iD (gI L i)) := hidd (by rw [← HX.out]; rfl)
  generalize iD (gI L i) = id at *
  rw [hv] at hc1
  go_enter Try.func17, Try.ntmps17
  go_wp2_with fail
  refine (c.out _ (by simp [go_sem, hc, hl]) (by simp; omega)).mono ?_
  rintro e w1 ⟨rfl, hb1⟩
  have HB1 := hidd (below_step (below_new (Below.refl w.heap.size w) _) hb1)
  have H1 := hidd (HH.out.below HB1.out)
  have g0 := (HB1.out.cell (p := ⟨h, 0, none⟩) hl).trans hc
  have g1 := (HB1.out.cell (p := ⟨h, 1, none⟩) hl).trans hc1
  have gf : ∀ o, w1.frozen? ⟨g, o, none⟩ = false := fun o => (HB1.out.frozen (p := ⟨g, o, none⟩) hg).trans (hgf o)
  have k0 := (hb1.cell (p := ⟨w.heap.size, 0, none⟩) (by simp)).trans (show _ = some (Value.int .i64 n) by simp [go_sem])
  have k1 := (hb1.cell (p := ⟨w.heap.size, 1, none⟩) (by simp)).trans (show _ = some (Value.int .i64 d) by simp [go_sem])
  have hs1 : w.heap.size < w1.heap.size := by have := hb1.size; simp at this; omega
  have hown : OwnL itV 4 w1 0 37 (.slice (some ⟨g, 0, none⟩) L.length k) L := by have := H1.out.at_.own; rw [hv] at this; exact this
  obtain ⟨i0, i1, i2, i3⟩ := OwnL.item hown hi
  have HO := hidd hown
  clear hb1 hown
  generalize iD (gI L i) = y0 at *
  generalize kN (gI L i) = y1 at *
  generalize kD (gI L i) = y2 at *
  generalize tN (gI L i) = y3 at *
  go_wp2_with fail
  refine (cf.out _ H1.out.at_.map).mono ?_
  rintro e w2 ⟨rfl, rfl⟩
  go_wp2_with fail
  go_still_tail 8, (by kernel_rfl)
  change wpList _ _ _ _ _ w1.drew
  have E5 : OwnL itV 4 (w1.setCells g (i * 4 + 1) [.int .i64 n, .int .i64 d]) 0 37 (.slice (some ⟨g, 0, none⟩) L.length k) (L.set i x) := by have := OwnL.setKey HO.out rfl hi n d; rw [HX.out] at this; exact this
  have S5 : Sav (Blk h mb v) w (w1.setCells g (i * 4 + 1) [.int .i64 n, .int .i64 d]) := (Sav.of HB1.out).tr (Sav.setCells (g := g) (.inr (.inr (by rw [hv]; rfl))) _ _ _)
  have f1 : (w1.setCells g (i * 4 + 1) [.int .i64 n, .int .i64 d]).heap[h]? = w1.heap[h]? := (Sav.setCells (S := fun j => j = g) rfl _ _ w1).block h H1.out.at_.lt (fun e => hne e.symm)
  have f2 : (w1.setCells g (i * 4 + 1) [.int .i64 n, .int .i64 d]).heap[mb]? = w1.heap[mb]? := (Sav.setCells (S := fun j => j = g) rfl _ _ w1).block mb H1.out.at_.mlt (fun e => hgm e)
  obtain ⟨W5, hW5⟩ : ∃ W5, ((w1.setCell ⟨g, i * 4 + 1, none⟩ (.int .i64 n)).setCell ⟨g, i * 4 + 1 + 1, none⟩ (.int .i64 d)) = W5 := ⟨_, rfl⟩
  have hW6 : w1.setCells g (i * 4 + 1) [.int .i64 n, .int .i64 d] = W5 := hW5
  rw [hW6] at E5 S5 f1 f2
  have E6 : Hid (OwnL itV 4 W5.drew 0 37 v (L.set i x)) := hidd (by rw [hv]; exact OwnL.drew E5)
  have N5 : Hid (HpN W5.drew h mb v (L.set i x) T D i) := by
    refine hidd ⟨H1.out.at_.upd f1 E6.out (H1.out.at_.map.to f2), fun y hy => ?_, ?_, ?_, by have := HH.out.sz; simpa using this, .inr ?_, by have := HH.out.lm; simpa using this⟩
    · rcases List.mem_or_eq_of_mem_set hy with q | q
      · exact HH.out.ok y q
      · subst q; exact OKX.out
    · have := HH.out.ids.keyed hi n d; rw [HX.out] at this; exact this
    · have := (HH.out.pl.keyed hi n d).off i; rw [HX.out] at this; exact this
    · rw [gI_set hi, if_pos rfl, HID.out]; exact HIN.out
  have hof := hidd (HH.out.heap.setAt HH.out.ok.pos hi x)
  have S6 := hidd S5.drew
  clear E5 S5 f1 f2 hW6
  go_wp2_with fail
  refine (cS.out (L.set i x) W5.drew i (by simpa using hi) N5.out hof.out).mono ?_
  rintro e w6 ⟨rfl, ⟨L', D', hp, hH⟩, hS6⟩
  have HF := hidd hH
  have HS6 := hidd (S6.out.tr (hS6.mono (fun j _ q => by rcases q with q | q; exact .inr (.inl q); exact .inr (.inr q))))
  have HP := hidd hp
  clear hH hS6 hp
  go_wp2_with fail
  go_ret
  exact ⟨rfl, ⟨L', D', HP.out, HF.out⟩, HS6.out⟩
end Go.Proofs.Ytohkkebiilaniaa.Hp
