/- Objects: the iterator over the objects of bytes. -/
import Derived.Test.YtnneolkedekfbaaObQ
namespace Go.Proofs.Ytnneolkedekfbaa
set_option linter.unusedVariables false
open Go.RowKit Go.Shelf
attribute [local go_sem] Oper.semAt_some

/-- the bytes lie as the iterator asks. -/
def RdO (bb : Nat) (A : Option Addr) (L : List Int) (c : Nat) (X : World) : Prop := X.cell? ⟨bb, 0, none⟩ = some (.slice A L.length c) ∧ LieQ byV 1 X (· < X.heap.size) A L
def encO (x : Ob) : Array Value := #[Value.agg #[.int .i64 x.c, .int .i64 x.t, x.v]]
theorem TkAt.keeps2 {W W' : World} {pb : Nat} {A : Option Addr} {L : List Int} {c i : Nat} (h : TkAt W pb (pb + 1) A L c i) (hk : Keeps2 pb W W') (hl : LieQ byV 1 W' (fun q => q ≠ pb + 1 ∧ q < W'.heap.size) A L) : TkAt W' pb (pb + 1) A L c i :=
  ⟨(World.cell?_of_block hk.2.1).trans h.cb, hk.2.2.trans h.ca, hl, Nat.lt_of_lt_of_le h.lt hk.1, h.ne⟩
set_option maxRecDepth 100000 in
set_option maxHeartbeats 4000000 in
theorem objects1_in (n : Nat) (hn : 1 ≤ n) (bb : Nat) (A : Option Addr) (L : List Int) (c : Nat) (hL : L.length ≤ 1000000) (hc : L.length ≤ c) (hc2 : c ≤ maxLen) (hby : Bytes L) :
    SeqTaker Fence.wide n Try.prog 40 #[.pointer (some ⟨bb, 0, none⟩)] encO L (RdO bb A L c) := by
  intro l J Jx W hRd hNew hBut hY h0
  have HRD := hidd hRd
  have HNEW := hidd hNew
  have HBUT := hidd hBut
  have HY := hidd hY
  have H0 := hidd h0
  obtain ⟨r0, hl0⟩ := hRd _ _ _ h0
  have HT0 := hidd (fun X (h : LieQ byV 1 X (· < X.heap.size) A L) => taker_any A L c X h)
  have HTK := hidd (fun pb pa i (hi : i ≤ L.length) X (h : TkAt X pb pa A L c i) => taken_any pb pa A L c i hi hL hc hc2 hby X h)
  have HL0 := hidd hl0
  clear hRd hNew hBut hY h0 hl0 hby
  refine callsIn_of_wp Try.func40 rfl trivial ?_ rfl
  simp only [Try.ntmps40, List.size_toArray, List.length_cons, List.length_nil, Nat.reduceAdd, Nat.reduceSub, Array.replicate_succ, Array.replicate_zero, List.push_toArray, List.append_toArray, List.nil_append, List.cons_append]
  gi_wp2_with (refine ⟨trivial, ?_⟩; gi_at_call 41; refine (callsIn_wide.2 (HT0.out _ HL0.out)).mono ?_; rintro e w1 ⟨rfl, hb1, hs1, ht1⟩)
  have HJ0 : Hid (∃ lo, W.heap.size + 1 < lo ∧ lo ≤ w1.heap.size ∧ J (some (W.heap.size, lo)) [] w1) := hidd ⟨_, by omega, Nat.le_refl _, HNEW.out _ _ w1 W.heap.size H0.out hb1 (Nat.le_refl _) (by omega)⟩
  have HTT := hidd ht1
  generalize W.heap.size = pb at *
  clear hb1 hs1 ht1 r0
  gi_loopw [] (fun wr => ∃ pre : List Ob, (∃ lo, pb + 1 < lo ∧ lo ≤ wr.heap.size ∧ J (some (pb, lo)) pre wr) ∧ okTo L pre.length ∧ TkAt wr pb (pb + 1) A L c (placeAt L pre.length)) (fun wr => L.length - (intOf ((wr.cell? ⟨pb + 1, 0, none⟩).getD undef)).toNat)
  case atStart => exact ⟨[], HJ0.out, okTo_zero L, HTT.out⟩
  case round =>
    obtain ⟨pre, ⟨lo, hlo1, hlo, hJ⟩, hok, ht⟩ := hrel
    have HJ := hidd hJ
    have HOK := hidd hok
    have HT := hidd ht
    have hpl := placeAt_le hok
    have HMS := hidd ht.ca.cell
    have HIO := hidd (isOver_any pb (pb + 1) A L c (placeAt L pre.length) wr ht)
    clear hJ hok ht HJ0 HTT
    by_cases hend : placeAt L pre.length = L.length
    · have hd : decide (((placeAt L pre.length : Nat) : Int) = (L.length : Int)) = true := decide_eq_true (by omega)
      rw [hd] at HIO
      have HEND := hidd hend
      clear hd hend hpl
      gi_wp2_with (refine ⟨trivial, ?_⟩; gi_at_call 60; refine (callsIn_wide.2 HIO.out).mono ?_; rintro e w2 ⟨rfl, rfl⟩)
      go_end0
      exact .inl ⟨_, rfl, .inl ⟨_, pre, HOK.out, HEND.out, HJ.out⟩⟩
    · have hd : decide (((placeAt L pre.length : Nat) : Int) = (L.length : Int)) = false := decide_eq_false (by omega)
      rw [hd] at HIO
      have HEND := hidd hend
      have htk := hidd (HTK.out pb (pb + 1) (placeAt L pre.length) hpl wr HT.out)
      clear hd hend hpl
      gi_wp2_with (refine ⟨trivial, ?_⟩; gi_at_call 60; refine (callsIn_wide.2 HIO.out).mono ?_; rintro e w2 ⟨rfl, rfl⟩)
      refine ⟨trivial, ?_⟩; gi_at_call 42; refine (callsIn_wide.2 htk.out).mono ?_; rintro e w3 ⟨hb3, (⟨hf, g, rfl, hl3, ht3⟩ | ⟨hf, rfl⟩)⟩
      · have hlt : pb + 1 < wr.heap.size := HT.out.ca.lt
        have hNX : NextO L pre ⟨av L (placeAt L pre.length + 2), av L (placeAt L pre.length + 3), .slice (some ⟨g, 0, none⟩) (wordsAt L (placeAt L pre.length)).length (wordsAt L (placeAt L pre.length)).length, wordsAt L (placeAt L pre.length)⟩ lo w3 :=
          ⟨HOK.out, hf, rfl, _, _, rfl, hl3.to (fun q hq => ⟨⟨by omega, hq.2⟩, rfl⟩)⟩
        obtain ⟨fn, tmps, assign, body, hy, hR⟩ := HY.out pb lo pre _ w3 (Nat.le_trans hlo hb3.size) (HBUT.out _ _ _ _ _ HJ.out hb3) hNX
        have HNX := hidd hNX
        have HF := hidd hf
        have HT3 := hidd ht3
        have HMS2 := hidd ht3.ca.cell
        have hok2 := okTo.one HOK.out hf
        have hle2 := placeAt_le hok2
        have hge2 : 8 ≤ nAt L (placeAt L pre.length) := hf.2.2.1
        have HOK2 := hidd hok2
        have e2 : placeAt L (pre.length + 1) = placeAt L pre.length + nAt L (placeAt L pre.length) := rfl
        have HLE := hidd (And.intro hle2 (And.intro hge2 e2))
        simp only [encO] at hy
        clear hb3 hl3 ht3 hNX hf hok2 hle2 hge2 e2
        generalize hx : (⟨av L (placeAt L pre.length + 2), av L (placeAt L pre.length + 3), .slice (some ⟨g, 0, none⟩) (wordsAt L (placeAt L pre.length)).length (wordsAt L (placeAt L pre.length)).length, wordsAt L (placeAt L pre.length)⟩ : Ob) = x at hR HNX
        clear hx
        gi_wp2_with fail
        refine hR.mono ?_
        rintro e W4 (⟨rfl, ⟨lo', hl1, hl2, hJ4⟩, hk4⟩ | ⟨rfl, hJx⟩)
        · have HJ4 : Hid (∃ lo, pb + 1 < lo ∧ lo ≤ W4.heap.size ∧ J (some (pb, lo)) (pre ++ [x]) W4) := hidd ⟨lo', by omega, hl2, hJ4⟩
          have HT4 : Hid (TkAt W4 pb (pb + 1) A L c (placeAt L (pre.length + 1))) := hidd (TkAt.keeps2 HT3.out hk4 (fun h => by
            obtain ⟨ad, e1, hp, _⟩ := HT3.out.hl h
            obtain ⟨ad', e1', hp', hc'⟩ := (HRD.out _ _ _ hJ4).2 h
            rw [e1] at e1'
            cases e1'
            exact ⟨ad, e1, ⟨hp.1, hp'⟩, hc'⟩))
          clear hJ4 hk4 hy hR hl1 hl2
          gi_wp2
          go_roundw
          case rel => exact ⟨pre ++ [x], HJ4.out, by rw [List.length_append]; exact HOK2.out, by rw [List.length_append]; exact HT4.out⟩
          case measure =>
            have a1 := HMS.out
            have a2 := HT4.out.ca.cell
            obtain ⟨b1, b2, b3⟩ := HLE.out
            rw [a1, a2]
            simp only [Option.getD, intOf, Int.toNat_natCast]
            omega
        · have HJx := hidd hJx
          clear hJx hy hR
          gi_wp2
          refine bodyPost_ret (results_none rfl _ _ _) rfl ?_
          exact .inl ⟨_, rfl, .inr ⟨_, HJx.out⟩⟩
      · have HJ3 := hidd (HBUT.out _ _ _ _ _ HJ.out hb3)
        have HNF := hidd hf
        clear hb3 hf
        gi_wp2_with fail
        exact ⟨rfl, .inr ⟨rfl, _, pre, HOK.out, HEND.out, HNF.out, HJ3.out⟩⟩
end Go.Proofs.Ytnneolkedekfbaa
