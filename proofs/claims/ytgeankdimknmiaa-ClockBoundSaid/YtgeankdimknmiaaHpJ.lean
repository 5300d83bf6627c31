/- Heaps: Drop, Take, Least, Get. -/
import Derived.Test.YtgeankdimknmiaaHpH
namespace Go.Proofs.Ytgeankdimknmiaa.Hp
set_option linter.unusedVariables false
open Go.RowKit Go.Maps Go.Sort Go.Proofs.Ytgeankdimknmiaa.Tp

def agI (x : It) : Value := .agg #[.int .i64 (iD x), .int .i64 (kN x), .int .i64 (kD x), .int .i64 (tN x)]
set_option maxHeartbeats 8000000 in
set_option maxRecDepth 100000 in
theorem remove_any {h mb : Nat} {v : Value} {L : List It} {T : Int} {D : DataW Unit} (n : Nat) (hn : n < L.length) (w : World) (H : Hp w h mb v L T D) :
    Calls Try.prog 38 #[.pointer (some ⟨h, 0, none⟩), .int .i64 (n : Int)] w fun e w' => e = .returned (.tuple #[]) ∧ (∃ v' L' D', v'.ownBlock = v.ownBlock ∧ L'.Perm (gone L n) ∧ Hp w' h mb v' L' T D') ∧ Sav (Blk h mb v) w w' := by
  have okx := H.ok.at_ hn
  have hl := H.at_.lt
  have hml := H.at_.mlt
  have hhm := H.at_.hm
  have hc := H.at_.c0
  have hc1 := H.at_.c1
  obtain ⟨g, k, hv, _, hg, hlk, hkm, hgf, _⟩ := OwnL.form H.at_.own (by omega)
  have hne : g ≠ h := fun e => H.at_.ne (by rw [hv, ← e]; rfl)
  have hgm : mb ≠ g := fun e => H.at_.vm (by rw [hv, e]; rfl)
  have hown : OwnL itV 4 w 0 71 (.slice (some ⟨g, 0, none⟩) L.length k) L := by have := H.at_.own; rw [hv] at this; exact this
  obtain ⟨i0, i1, i2, i3⟩ := OwnL.item hown hn
  have cF := hidd (fun W hM => forget_any mb D (iD (gI L n)) (by have := okx.i0; omega) (by have := okx.i1; omega) W hM)
  have lm := H.lm
  obtain ⟨m, hm⟩ : ∃ m, L.length = m + 1 := ⟨L.length - 1, by omega⟩
  have cC := hidd (fun W hO => change_any g k L n m hn (by omega) (by omega) W hO)
  have HH := hidd H
  have HO := hidd hown
  have HIN := hidd (H.pl.at_ hn).1
  have z1 : (0 : Int) ≤ (n : Int) := by omega
  have z2 : (n : Int) < (L.length : Int) := by omega
  have wm : IntKind.i64.wrap ((L.length : Int) - 1) = (m : Int) := by rw [IntKind.wrap_i64]; omega
  have hMd : Hid (MapK w.drew mb D) := hidd (H.at_.map.to rfl)
  have cS := hidd (fun (v' : Value) (L' : List It) (D' : DataW Unit) (W : World) (j : Nat) (hj : j < L'.length) (H' : HpN W h mb v' L' T D' j) (ho : Off L' j) => settle_any j hj W H' ho)
  have hgl := gone_len (L := L) (n := n)
  have HG : Hid ((swp L n m).take m = gone L n) := hidd (by unfold gone; rw [hm]; simp)
  clear H hown i1 i2 i3
  generalize hid : iD (gI L n) = id at *
  have HID := hidd hid
  clear hid
  have HM := hidd hm
  clear hm
  rw [hv] at hc1
  have zm : (0 : Int) ≤ (m : Int) := by omega
  go_enter Try.func38, Try.ntmps38
  go_wp2_with fail
  go_cut [] (fun wx => MapK wx mb (D.del (key id)) ∧ Sav (fun j => j = mb) w wx)
  case first =>
    first | (go_region_with (go_at_call 60; refine (cF.out _ hMd.out).mono ?_; rintro E w1 ⟨rfl, hM1, hT1⟩)) | fail
    all_goals
      have hS1 : Sav (fun j => j = mb) w w1 := ((Sav.refl _ w).drew).tr (Sav.turned hT1 rfl)
      have HS1 := hidd hS1
      have HM1 := hidd hM1
      clear hS1 hT1 hM1
      go_wp2_with fail
      go_meet
      exact ⟨HM1.out, HS1.out⟩
  case rest =>
    obtain ⟨hM1, hS1⟩ := hcut
    have c01 := (hS1.cell (p := ⟨h, 1, none⟩) hl (fun e => hhm e)).trans hc1
    have hO1 : OwnL itV 4 wc 0 71 (.slice (some ⟨g, 0, none⟩) L.length k) L := OwnL.to HO.out (fun q e => by cases e; exact hS1.block g hg (fun e => hgm e.symm))
    have HS1 := hidd hS1
    have HM1 := hidd hM1
    clear hS1 hM1
    go_wp2_with fail
    refine (cC.out _ hO1).mono ?_
    rintro e w2 ⟨rfl, hO2, hS2⟩
    have hl1 : h < wc.heap.size := Nat.lt_of_lt_of_le hl HS1.out.size
    have hml1 : mb < wc.heap.size := Nat.lt_of_lt_of_le hml HS1.out.size
    have d1 := (hS2.cell (p := ⟨h, 1, none⟩) hl1 (fun e => hne e.symm)).trans c01
    have df : w2.frozen? ⟨h, 1, none⟩ = false := (World.frozen?_of_block (a := ⟨h, 1, none⟩) ((hS2.block h hl1 (fun e => hne e.symm)).trans (HS1.out.block h hl (fun e => hhm e)))).trans (HH.out.at_.fz 1)
    have hh2 : w2.heap[h]? = w.heap[h]? := (hS2.block h hl1 (fun e => hne e.symm)).trans (HS1.out.block h hl (fun e => hhm e))
    have hm2 : w2.heap[mb]? = wc.heap[mb]? := hS2.block mb hml1 (fun e => hgm e)
    have hO3 : OwnL itV 4 w2 0 71 (.slice (some ⟨g, 0, none⟩) m k) (gone L n) := by
      have := OwnL.cut (L := swp L n m) (c := k) (by rw [swp_len]; exact hO2) m (by rw [swp_len, HM.out]; omega)
      rw [HG.out] at this; exact this
    have hle : m ≤ k := by have := HM.out; omega
    have HZ : Hid (∀ v', HpAt (w2.setCell ⟨h, 1, none⟩ v') h mb v' (gone L n) T (D.del (key id)) → v' = .slice (some ⟨g, 0, none⟩) m k → HpAt (w2.setCell ⟨h, 1, none⟩ v') h mb v' (gone L n) T (D.del (key id))) := hidd (fun _ q _ => q)
    have A5 : HpAt (w2.setCell ⟨h, 1, none⟩ (.slice (some ⟨g, 0, none⟩) m k)) h mb (.slice (some ⟨g, 0, none⟩) m k) (gone L n) T (D.del (key id)) := by
      have hK : MapK w2 mb (D.del (key id)) := HM1.out.to hm2
      obtain ⟨cs, hcs⟩ := HH.out.at_.blk
      have hc := fun o => World.cell?_of_block (w := w) (w' := w2) (a := ⟨h, o, none⟩) hh2
      refine ⟨⟨_, heap_setCell_same w2 h 1 cs _ _ (hh2.trans hcs)⟩, (set_other _ (by omega)).trans ((hc 0).trans HH.out.at_.c0), World.cell?_setCell_same' _ _ _ (by rw [hc 1, HH.out.at_.c1]; rfl), (set_other _ (by omega)).trans ((hc 2).trans HH.out.at_.c2), (set_other _ (by omega)).trans ((hc 3).trans HH.out.at_.c3), ?_, ?_, fun e => hne (by injection e)⟩
      · exact OwnL.to hO3 (fun q e => by cases e; exact Below.heap_setCell _ _ _ _ hne)
      · exact hK.to (Below.heap_setCell _ _ _ _ (fun q => hhm q.symm))
    have S5 : Sav (Blk h mb v) w (w2.setCell ⟨h, 1, none⟩ (.slice (some ⟨g, 0, none⟩) m k)) :=
      ((HS1.out.mono (fun j _ e => .inr (.inl e))).tr (hS2.mono (fun j _ e => .inr (.inr (by rw [hv, e]; rfl))))).tr (Sav.setCell (p := ⟨h, 1, none⟩) (.inl rfl) w2 _)
    obtain ⟨W5, hW5⟩ : ∃ W5, w2.setCell ⟨h, 1, none⟩ (.slice (some ⟨g, 0, none⟩) m k) = W5 := ⟨_, rfl⟩
    rw [hW5] at A5 S5
    have HA5 := hidd A5
    have HS5 := hidd S5
    clear A5 S5 hO2 hO3 hS2 hh2 hm2 HZ cC cF c01 hO1
    have gp := hidd (gone_perm hn)
    have hokg : Hid (OkL (gone L n)) := hidd (fun x hx => HH.out.ok x (gp.out.mem_iff.2 (List.mem_cons_of_mem _ hx)))
    have hsz : Hid (Maps.size (D.del (key id)) ≤ m ∧ Maps.size (D.del (key id)) + 1 = Maps.size D) := hidd (by
      have := size_del (k := key id) HH.out.at_.map.tidy
      have q : has D (key id) = true := HIN.out
      rw [q] at this
      simp at this
      have := HH.out.sz
      have := HM.out
      omega)
    have hids := hidd (HH.out.ids.gone hn)
    have hpl : Hid (Pl (D.del (key id)) (gone L n) n) := hidd (by have := HH.out.pl.gone HH.out.ids hn; rw [HID.out] at this; exact this)
    by_cases hnm : n < m
    · have zn : (n : Int) < (m : Int) := by omega
      have N5 : Hid (HpN W5 h mb (.slice (some ⟨g, 0, none⟩) m k) (gone L n) T (D.del (key id)) n) := hidd ⟨HA5.out, hokg.out, hids.out, hpl.out, by rw [hgl, HM.out]; have := hsz.out.1; omega, .inr (by
        have q : iD (gI (gone L n) n) = iD (gI L m) := by rw [gI_gone hn (by have := HM.out; omega), if_pos rfl, HM.out]; rfl
        rw [q]
        have hne2 : iD (gI L m) ≠ id := fun e => by
          have := HH.out.ids m n (by have := HM.out; omega) hn (e.trans HID.out.symm)
          omega
        rw [in_del_other hne2]
        exact (HH.out.pl.at_ (by have := HM.out; omega)).1), by rw [hgl]; omega⟩
      have hof := hidd (HH.out.heap.goneAt HH.out.ok.pos hn)
      have hjl := hidd (show n < (gone L n).length by rw [hgl]; have := HM.out; omega)
      go_wp2_with fail
      refine (cS.out _ (gone L n) _ W5 n hjl.out N5.out hof.out).mono ?_
      rintro e w6 ⟨rfl, ⟨L', D', hp, hH⟩, hS6⟩
      have HF := hidd hH
      have HS6 := hidd (HS5.out.tr (hS6.mono (fun j _ q => by rcases q with q | q; exact .inr (.inl q); exact .inr (.inr (by rw [hv]; exact q)))))
      have HP := hidd hp
      clear hH hS6 hp
      go_wp2_with fail
      go_end0
      exact ⟨rfl, ⟨_, L', D', by rw [hv]; rfl, HP.out, HF.out⟩, HS6.out⟩
    · have zn : ¬ (n : Int) < (m : Int) := by omega
      have hnl : Hid (n = L.length - 1) := hidd (by have := HM.out; omega)
      have hHp : Hid (Hp W5 h mb (.slice (some ⟨g, 0, none⟩) m k) (gone L n) T (D.del (key id))) := hidd ⟨HA5.out, hokg.out, hids.out, ⟨fun i hi _ => hpl.out.1 i hi (by rw [hgl] at hi; have := hnl.out; omega), hpl.out.2⟩, by rw [hgl, HM.out]; have := hsz.out.1; omega, by rw [hgl]; omega, by
        have := HH.out.heap.goneLast (by omega)
        rw [← hnl.out] at this
        exact this⟩
      go_wp2_with fail
      go_end0
      exact ⟨rfl, ⟨_, gone L n, _, by rw [hv]; rfl, List.Perm.refl _, hHp.out⟩, HS5.out⟩
end Go.Proofs.Ytgeankdimknmiaa.Hp
