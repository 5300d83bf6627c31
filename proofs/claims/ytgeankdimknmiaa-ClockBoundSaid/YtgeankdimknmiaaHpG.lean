/- Heaps: what was put, or has another key, settles. -/
import Derived.Test.YtgeankdimknmiaaHpF
namespace Go.Proofs.Ytgeankdimknmiaa.Hp
set_option linter.unusedVariables false
open Go.RowKit Go.Maps Go.Sort Go.Proofs.Ytgeankdimknmiaa.Tp

/-- a heap, all in order. -/
structure Hp (W : World) (h mb : Nat) (v : Value) (L : List It) (T : Int) (D : DataW Unit) : Prop where
  at_ : HpAt W h mb v L T D
  ok : OkL L
  ids : Ids L
  pl : PlAll D L
  sz : Maps.size D ≤ L.length
  lm : L.length ≤ 100000
  heap : Heap L
theorem Hp.keep {W W' : World} {h mb : Nat} {v : Value} {L : List It} {T : Int} {D : DataW Unit} (H : Hp W h mb v L T D) (hb : ∀ k, k < W.heap.size → Blk h mb v k → W'.heap[k]? = W.heap[k]?) : Hp W' h mb v L T D := ⟨H.at_.keep hb, H.ok, H.ids, H.pl, H.sz, H.lm, H.heap⟩
theorem Hp.below {W W' : World} {h mb : Nat} {v : Value} {L : List It} {T : Int} {D : DataW Unit} (H : Hp W h mb v L T D) (hb : Below W.heap.size W W') : Hp W' h mb v L T D := H.keep (fun k hk _ => hb.block k hk)
theorem HpN.done {W W' : World} {h mb : Nat} {v : Value} {L : List It} {T : Int} {D : DataW Unit} {n : Nat} (H : HpN W h mb v L T D n) (hn : n < L.length) (hp : Heap L) (hh : W'.heap[h]? = W.heap[h]?) (hO : OwnL itV 4 W' 0 71 v L)
    (hM : MapK W' mb (D.put (key (iD (gI L n))) (.lit (.int .i64 (n : Int))))) : Hp W' h mb v L T (D.put (key (iD (gI L n))) (.lit (.int .i64 (n : Int)))) := by
  refine ⟨H.at_.upd hh hO hM, H.ok, H.ids, Pl.note H.at_.map.isMap H.pl H.ids hn, ?_, H.lm, hp⟩
  rcases H.sn with h1 | h1
  · have := size_put_le H.at_.map.tidy (iD (gI L n)) (.lit (.int .i64 (n : Int))); omega
  · rw [size_put_in H.at_.map.tidy h1]; exact H.sz
set_option maxHeartbeats 4000000 in
theorem settle_any {h mb : Nat} {v : Value} {L : List It} {T : Int} {D : DataW Unit} (n : Nat) (hn : n < L.length) (w : World) (H : HpN w h mb v L T D n) (hoff : Off L n) :
    Calls Try.prog 36 #[.pointer (some ⟨h, 0, none⟩), .int .i64 (n : Int)] w fun e w' => e = .returned (.tuple #[]) ∧ (∃ L' D', L'.Perm L ∧ Hp w' h mb v L' T D') ∧ Sav (Two mb v) w w' := by
  have cR := hidd (rise_any n hn w H hoff)
  generalize gI L n = x at *
  clear H hoff
  have cS := hidd (fun (L' : List It) (m : Nat) (D' : DataW Unit) hm W H' ho hu => sink_any (h := h) (mb := mb) (v := v) (L := L') (T := T) (D := D') m hm W H' ho hu)
  go_enter Try.func36, Try.ntmps36
  go_wp2_with fail
  refine cR.out.mono ?_
  rintro e w1 ⟨L1, m1, rfl, hS1, hO1⟩
  obtain ⟨D1, hN1⟩ := hS1.hp
  have c2 := hidd (cS.out L1 m1 D1 hS1.lt w1 hN1 hS1.off hO1)
  have HS1 := hidd hS1
  clear cS hS1 hN1 hO1
  go_wp2_with fail
  refine c2.out.mono ?_
  rintro e w2 ⟨L2, m2, rfl, hD⟩
  clear c2 cR
  obtain ⟨D2, hN⟩ := hD.hp
  have hlt := hD.lt
  have hO := hN.at_.own
  obtain ⟨g, k, hv, _, hg, hlk, _, _, _⟩ := OwnL.form hO (by omega)
  subst hv
  have hne : g ≠ h := fun e => hN.at_.ne (by rw [← e]; rfl)
  have hgm : mb ≠ g := fun e => hN.at_.vm (by rw [e]; rfl)
  have hhm : h ≠ mb := hN.at_.hm
  have okb := hN.ok.at_ hlt
  have c0 := hN.at_.c0
  have c1 := hN.at_.c1
  have hh := hN.at_.lt
  obtain ⟨i0, i1, i2, i3⟩ := OwnL.item hO hlt
  have z1 : (0 : Int) ≤ (m2 : Int) := by omega
  have z2 : (m2 : Int) < (L2.length : Int) := by omega
  have cN := hidd (fun W hM => note_any mb D2 (iD (gI L2 m2)) (m2 : Int) (by have := okb.i0; omega) (by have := okb.i1; omega) (by omega) (by have := hN.lm; omega) (by have := hN.sz; have := hN.lm; omega) W hM)
  have HMd : Hid (MapK w2.drew mb D2) := hidd (hN.at_.map.to rfl)
  have HN := hidd hN
  have HD := hidd hD
  clear hN hD hO i1 i2 i3 okb
  go_wp2_with fail
  first | (go_region_with (go_at_call 59; refine (cN.out _ HMd.out).mono ?_; rintro E w3 ⟨rfl, hM3, hT3⟩)) | fail
  all_goals
    have hg3 := hT3.grown
    have f1 : w3.heap[h]? = w2.heap[h]? := hg3.block h (by show h < w2.heap.size; omega) (fun e => hhm (by injection e))
    have f2 : w3.heap[g]? = w2.heap[g]? := hg3.block g (by show g < w2.heap.size; omega) (fun e => hgm (by injection e with e; exact e.symm))
    have FN := hidd (HpN.done HN.out hlt HD.out.heap f1 (OwnL.to HN.out.at_.own (fun q e => by cases e; exact f2)) hM3)
    have FS : Hid (Sav (Two mb (.slice (some ⟨g, 0, none⟩) L2.length k)) w w3) := hidd (((HS1.out.sav.tr HD.out.sav).drew).tr (Sav.turned hT3 (.inl rfl)))
    have FP := hidd (HD.out.perm.trans HS1.out.perm)
    clear hT3 hM3 hg3 f1 f2
    go_wp2_with fail
    go_end0
    exact ⟨rfl, ⟨_, _, FP.out, FN.out⟩, FS.out⟩
end Go.Proofs.Ytgeankdimknmiaa.Hp
