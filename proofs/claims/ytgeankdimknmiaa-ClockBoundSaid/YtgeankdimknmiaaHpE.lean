/- Heaps: two items change places. -/
import Derived.Test.YtgeankdimknmiaaHpD
import Derived.Shelf.RegionOpenPlain
import Derived.Shelf.RegionOpen
namespace Go.Proofs.Ytgeankdimknmiaa.Hp
set_option linter.unusedVariables false
open Go.RowKit Go.Maps Go.Sort Go.Proofs.Ytgeankdimknmiaa.Tp

theorem set4v (w : World) (g o : Nat) (a b c d : Value) : w.setCells g o [a, b, c, d] = (((w.setCell ⟨g, o, none⟩ a).setCell ⟨g, o + 1, none⟩ b).setCell ⟨g, o + 2, none⟩ c).setCell ⟨g, o + 3, none⟩ d := rfl
theorem Sav.drew {S : Nat → Prop} {A B : World} (h : Sav S A B) : Sav S A B.drew := ⟨h.os, h.tape, h.output, h.size, h.block⟩
theorem set4 (w : World) (g o : Nat) (x : It) : ((((w.setCell ⟨g, o, none⟩ (.int .i64 (iD x))).setCell ⟨g, o + 1, none⟩ (.int .i64 (kN x))).setCell ⟨g, o + 2, none⟩ (.int .i64 (kD x))).setCell ⟨g, o + 3, none⟩ (.int .i64 (tN x))) = w.setCells g o (itV x) := rfl
set_option maxHeartbeats 4000000 in
theorem change_any (g k : Nat) (L : List It) (a b : Nat) (ha : a < L.length) (hb : b < L.length) (hm : L.length ≤ 1000000) (w : World) (hO : OwnL itV 4 w 0 71 (.slice (some ⟨g, 0, none⟩) L.length k) L) :
    Calls Try.prog 61 #[.slice (some ⟨g, 0, none⟩) L.length k, .int .i64 (a : Int), .int .i64 (b : Int)] w fun e w' => e = .returned (.tuple #[]) ∧ OwnL itV 4 w' 0 71 (.slice (some ⟨g, 0, none⟩) L.length k) (swp L a b) ∧ Sav (fun j => j = g) w w' := by
  obtain ⟨a0, a1, a2, a3⟩ := OwnL.item hO ha
  obtain ⟨b0, b1, b2, b3⟩ := OwnL.item hO hb
  obtain ⟨g', k', hv, _, hg, _, _, hf, _⟩ := OwnL.form hO (by omega)
  cases hv
  have HE : Hid (∀ W : World, W.heap = w.heap → OwnL itV 4 ((W.setCells g (a * 4) [.int .i64 (iD (gI L b)), .int .i64 (kN (gI L b)), .int .i64 (kD (gI L b)), .int .i64 (tN (gI L b))]).setCells g (b * 4) [.int .i64 (iD (gI L a)), .int .i64 (kN (gI L a)), .int .i64 (kD (gI L a)), .int .i64 (tN (gI L a))]) 0 71 (.slice (some ⟨g, 0, none⟩) L.length k) (swp L a b)) := hidd (fun W hW => by
    have h0 : OwnL itV 4 W 0 71 (.slice (some ⟨g, 0, none⟩) L.length k) L := OwnL.to hO (fun _ _ => by rw [hW])
    have h1 := OwnL.set h0 rfl ha (gI L b)
    exact OwnL.set h1 rfl (by simpa using hb) (gI L a))
  have HS : Hid (Sav (fun j => j = g) w ((w.setCells g (a * 4) [.int .i64 (iD (gI L b)), .int .i64 (kN (gI L b)), .int .i64 (kD (gI L b)), .int .i64 (tN (gI L b))]).setCells g (b * 4) [.int .i64 (iD (gI L a)), .int .i64 (kN (gI L a)), .int .i64 (kD (gI L a)), .int .i64 (tN (gI L a))])) := hidd ((Sav.setCells (S := fun j => j = g) rfl _ (a * 4) w).tr (Sav.setCells (S := fun j => j = g) rfl _ (b * 4) _))
  simp only [set4v] at HE HS
  have z1 : (0 : Int) ≤ (a : Int) := by omega
  have z2 : (a : Int) < (L.length : Int) := by omega
  have z3 : (0 : Int) ≤ (b : Int) := by omega
  have z4 : (b : Int) < (L.length : Int) := by omega
  clear hO
  have fa := fun o => hf o
  clear hf
  generalize swp L a b = L' at *
  generalize iD (gI L a) = x0 at *
  generalize kN (gI L a) = x1 at *
  generalize kD (gI L a) = x2 at *
  generalize tN (gI L a) = x3 at *
  generalize iD (gI L b) = y0 at *
  generalize kN (gI L b) = y1 at *
  generalize kD (gI L b) = y2 at *
  generalize tN (gI L b) = y3 at *
  generalize L.length = n at *
  have ex : ∀ o v, w.cell? ⟨g, o, none⟩ = some v → ∃ u, (w.setCells g (a * 4) [.int .i64 y0, .int .i64 y1, .int .i64 y2, .int .i64 y3]).cell? ⟨g, o, none⟩ = some u := fun o v h => Option.isSome_iff_exists.1 (World.isSome_setCells g _ _ w _ (by rw [h]; rfl))
  obtain ⟨u0, hu0⟩ := ex _ _ b0
  replace hu0 : ((((w.setCell ⟨g, a * 4, none⟩ (.int .i64 y0)).setCell ⟨g, a * 4 + 1, none⟩ (.int .i64 y1)).setCell ⟨g, a * 4 + 2, none⟩ (.int .i64 y2)).setCell ⟨g, a * 4 + 3, none⟩ (.int .i64 y3)).cell? ⟨g, b * 4, none⟩ = some u0 := hu0
  obtain ⟨u1, hu1⟩ := ex _ _ b1
  replace hu1 : ((((w.setCell ⟨g, a * 4, none⟩ (.int .i64 y0)).setCell ⟨g, a * 4 + 1, none⟩ (.int .i64 y1)).setCell ⟨g, a * 4 + 2, none⟩ (.int .i64 y2)).setCell ⟨g, a * 4 + 3, none⟩ (.int .i64 y3)).cell? ⟨g, b * 4 + 1, none⟩ = some u1 := hu1
  obtain ⟨u2, hu2⟩ := ex _ _ b2
  replace hu2 : ((((w.setCell ⟨g, a * 4, none⟩ (.int .i64 y0)).setCell ⟨g, a * 4 + 1, none⟩ (.int .i64 y1)).setCell ⟨g, a * 4 + 2, none⟩ (.int .i64 y2)).setCell ⟨g, a * 4 + 3, none⟩ (.int .i64 y3)).cell? ⟨g, b * 4 + 2, none⟩ = some u2 := hu2
  obtain ⟨u3, hu3⟩ := ex _ _ b3
  replace hu3 : ((((w.setCell ⟨g, a * 4, none⟩ (.int .i64 y0)).setCell ⟨g, a * 4 + 1, none⟩ (.int .i64 y1)).setCell ⟨g, a * 4 + 2, none⟩ (.int .i64 y2)).setCell ⟨g, a * 4 + 3, none⟩ (.int .i64 y3)).cell? ⟨g, b * 4 + 3, none⟩ = some u3 := hu3
  clear ex
  have mixed : Try.prog.follows .mixedOrders = true := by kernel_rfl
  go_enter Try.func61, Try.ntmps61
  go_wp2_with fail
  go_big_region_o
  all_goals go_wp2_with fail
  go_end0
  exact ⟨rfl, OwnL.drew (HE.out w rfl), HS.out.drew⟩
/-- what a heap is that stands in memory, as far as rising and sinking go: its items are ok, no two have one ID, its places hold but at n. -/
structure HpN (W : World) (h mb : Nat) (v : Value) (L : List It) (T : Int) (D : DataW Unit) (n : Nat) : Prop where
  at_ : HpAt W h mb v L T D
  ok : OkL L
  ids : Ids L
  pl : Pl D L n
  sz : Maps.size D ≤ L.length
  sn : Maps.size D < L.length ∨ In D (iD (gI L n)) = true
  lm : L.length ≤ 100000
theorem HpN.keep {W W' : World} {h mb : Nat} {v : Value} {L : List It} {T : Int} {D : DataW Unit} {n : Nat} (H : HpN W h mb v L T D n) (hb : Below W.heap.size W W') : HpN W' h mb v L T D n := ⟨H.at_.below hb, H.ok, H.ids, H.pl, H.sz, H.sn, H.lm⟩
/-- the blocks that items and places stand in. -/
def Two (mb : Nat) (v : Value) (k : Nat) : Prop := k = mb ∨ v.ownBlock = some k
theorem size_put_in {D : DataW Unit} (hD : Tidy D) {x : Int} (h : In D x = true) (d : DataW Unit) : Maps.size (D.put (key x) d) = Maps.size D := by
  rw [size_put hD]; unfold In at h; rw [h]; simp
theorem size_put_le {D : DataW Unit} (hD : Tidy D) (x : Int) (d : DataW Unit) : Maps.size (D.put (key x) d) ≤ Maps.size D + 1 := by
  rw [size_put hD]; split <;> omega
theorem HpAt.upd {W W' : World} {h mb : Nat} {v : Value} {L L' : List It} {T : Int} {D D' : DataW Unit} (H : HpAt W h mb v L T D) (hh : W'.heap[h]? = W.heap[h]?) (hO : OwnL itV 4 W' 0 71 v L') (hM : MapK W' mb D') : HpAt W' h mb v L' T D' := by
  have hc := fun o => World.cell?_of_block (w := W) (w' := W') (a := ⟨h, o, none⟩) hh
  obtain ⟨cs, hcs⟩ := H.blk
  exact ⟨⟨cs, hh.trans hcs⟩, (hc 0).trans H.c0, (hc 1).trans H.c1, (hc 2).trans H.c2, (hc 3).trans H.c3, hO, hM, H.ne⟩
theorem HpN.moved {W W' : World} {h mb : Nat} {v : Value} {L : List It} {T : Int} {D : DataW Unit} {a b : Nat} (H : HpN W h mb v L T D a) (hab : a ≠ b) (ha : a < L.length) (hb : b < L.length) (hh : W'.heap[h]? = W.heap[h]?)
    (hO : OwnL itV 4 W' 0 71 v (swp L a b)) (hM : MapK W' mb (D.put (key (iD (gI L b))) (.lit (.int .i64 (a : Int))))) : HpN W' h mb v (swp L a b) T (D.put (key (iD (gI L b))) (.lit (.int .i64 (a : Int)))) b := by
  have hbl := H.pl.1 b hb (fun e => hab e.symm)
  have hs := size_put_in H.at_.map.tidy hbl.1 (.lit (.int .i64 (a : Int)))
  refine ⟨H.at_.upd hh hO hM, H.ok.perm (swp_perm ha hb), H.ids.swp ha hb, Pl.move H.at_.map.isMap H.pl H.ids ha hb hab, by rw [hs, swp_len]; exact H.sz, ?_, by rw [swp_len]; exact H.lm⟩
  rw [hs, swp_len, gI_swp ha hb, if_pos rfl, in_put_other (fun e => hab (H.ids a b ha hb e))]
  exact H.sn
set_option maxHeartbeats 2000000 in
theorem move_any {h mb : Nat} {v : Value} {L : List It} {T : Int} {D : DataW Unit} (a b : Nat) (hab : a ≠ b) (ha : a < L.length) (hb : b < L.length) (w : World) (H : HpN w h mb v L T D a) :
    Calls Try.prog 84 #[.pointer (some ⟨h, 0, none⟩), .int .i64 (a : Int), .int .i64 (b : Int)] w fun e w' => e = .returned (.int .i64 (b : Int)) ∧ (∃ D', HpN w' h mb v (swp L a b) T D' b) ∧ Sav (Two mb v) w w' := by
  have hO := H.at_.own
  obtain ⟨g, k, hv, _, hg, hlk, _, _, _⟩ := OwnL.form hO (by omega)
  subst hv
  have hne : g ≠ h := fun e => H.at_.ne (by rw [← e]; rfl)
  have hgm : mb ≠ g := fun e => H.at_.vm (by rw [e]; rfl)
  have hhm : h ≠ mb := H.at_.hm
  have cC := hidd (change_any g k L a b ha hb (by have := H.lm; omega) w hO)
  have cN := hidd (fun (n : Int) (D' : DataW Unit) (i0 : -9223372036854775808 ≤ iD (gI L b)) (i1 : iD (gI L b) ≤ 9223372036854775807) (n0 : 0 ≤ n) (n1 : n ≤ 1000000) (hs : Maps.size D' < 1000000) W hM => note_any mb D' (iD (gI L b)) n i0 i1 n0 n1 hs W hM)
  have okb := H.ok.at_ hb
  have c0 := H.at_.c0
  have c1 := H.at_.c1
  have hh := H.at_.lt
  have hbl := H.pl.1 b hb (fun e => hab e.symm)
  have hmt := H.at_.map.tidy
  have z1 : (0 : Int) ≤ (a : Int) := by omega
  have z2 : (a : Int) < (L.length : Int) := by omega
  have hsl := swp_len L a b
  have lm := H.lm
  have HH := hidd H
  clear H hO
  go_enter Try.func84, Try.ntmps84
  go_wp2_with fail
  refine cC.out.mono ?_
  rintro e w1 ⟨rfl, hO1, hS1⟩
  have s0 := (hS1.cell (p := ⟨h, 0, none⟩) hh (fun q => hne q.symm)).trans c0
  have s1 := (hS1.cell (p := ⟨h, 1, none⟩) hh (fun q => hne q.symm)).trans c1
  obtain ⟨i0, i1, i2, i3⟩ := OwnL.item (L := swp L a b) (i := a) (by rw [hsl]; exact hO1) (by rw [hsl]; exact ha)
  rw [gI_swp ha hb, if_neg hab, if_pos rfl] at i0
  have hM1 : MapK w1 mb D := HH.out.at_.map.to (hS1.block mb HH.out.at_.mlt (by exact hgm))
  have cN1 := hidd (cN.out (a : Int) D (by have := okb.i0; omega) (by have := okb.i1; omega) (by omega) (by omega) (by have := HH.out.sz; omega))
  have HS1 := hidd hS1
  have HO1 := hidd hO1
  clear cN cC hS1 hO1 c0 c1 i1 i2 i3
  have HMD := hidd hM1
  clear hM1
  have hgs := hidd hsl
  clear hsl
  go_wp2_with fail
  have HMd : Hid (MapK w1.drew mb D) := hidd (HMD.out.to rfl)
  first | (go_region_with (go_at_call 59; refine (cN1.out _ HMd.out).mono ?_; rintro E w2 ⟨rfl, hM2, hT2⟩)) | fail
  all_goals
    have hg2 := hT2.grown
    have f1 : w2.heap[h]? = w.heap[h]? := (hg2.block h (by have := HS1.out.size; show h < w1.heap.size; omega) (fun e => hhm (by injection e))).trans (HS1.out.block h hh (fun q => hne q.symm))
    have f2 : w2.heap[g]? = w1.heap[g]? := hg2.block g (by have := HS1.out.size; show g < w1.heap.size; omega) (fun e => hgm (by injection e with e; exact e.symm))
    have FN := hidd (HpN.moved HH.out hab ha hb f1 (OwnL.to HO1.out (fun q e => by cases e; exact f2)) hM2)
    have FS : Hid (Sav (Two mb (.slice (some ⟨g, 0, none⟩) L.length k)) w w2) := hidd (((HS1.out.mono (fun j _ e => .inr (by rw [e]; rfl))).drew).tr (Sav.turned hT2 (.inl rfl)))
    clear hT2 hM2 hg2 f1 f2
    go_wp2_with fail
    go_ret
    exact ⟨rfl, ⟨_, FN.out⟩, FS.out⟩
end Go.Proofs.Ytgeankdimknmiaa.Hp
