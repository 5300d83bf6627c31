/- Objects: the walk of ObjectRaws. -/
import Derived.Test.YtnneolkedekfbaaObT
import Derived.Test.YtnneolkedekfbaaObK
namespace Go.Proofs.Ytnneolkedekfbaa
set_option linter.unusedVariables false
open Go.RowKit

theorem LieQ.lie {α : Type} {f : α → List Value} {sz : Nat} {w : World} {B : Nat} {A : Option Addr} {l : List α} (h : LieQ f sz w (· < B) A l) : Lie f sz w B A l := h
theorem rawAll_len70 : ∀ {l : List Ob}, (∀ o ∈ l, o.ws.length ≤ 70) → (rawAll l).length ≤ l.length * 284
  | [], _ => by simp [rawAll]
  | o :: l, h => by
    have h1 := rawAll_len70 (l := l) (fun x hx => h x (by simp [hx]))
    have h2 := h o (by simp)
    have h3 : (rawAll (o :: l)).length = (rawO o).length + (rawAll l).length := by simp [rawAll]
    rw [h3, rawO_len, List.length_cons, Nat.add_mul]; omega
theorem layB_bytes {k : Nat} {ns : List Int} : Bytes (layB k ns) := fun x hx => by
  unfold layB at hx
  obtain ⟨n, _, hx⟩ := List.mem_flatMap.1 hx
  have : ∀ j, x ∈ layN n j → 0 ≤ x ∧ x ≤ 255 := fun j => by
    induction j with
    | zero => intro h; simp [layN] at h
    | succ j ih =>
      intro h
      simp only [layN, List.mem_cons] at h
      rcases h with rfl | h
      · generalize n / 256 ^ j = q
        omega
      · exact ih h
  exact this k hx
theorem rawAll_bytes (l : List Ob) : Bytes (rawAll l) := fun x hx => by
  unfold rawAll at hx
  obtain ⟨o, _, hx⟩ := List.mem_flatMap.1 hx
  unfold rawO at hx
  rcases List.mem_append.1 hx with h | h
  · rcases List.mem_append.1 h with h | h
    · exact layB_bytes x h
    · exact layB_bytes x h
  · exact layB_bytes x h
/-- what Raw answers, its slice by names. -/
def RawGot (l : List Ob) (w : World) (e : Ending) (w' : World) : Prop :=
  ∃ A n c k, e = .returned (.tuple #[.slice A n c, .int .i64 k]) ∧ Below w.heap.size w w' ∧
    ((allR l ∧ l.length ≤ 40 ∧ n = (rawAll l).length ∧ n ≤ c ∧ c ≤ maxLen ∧ k = 0 ∧ LieQ byV 1 w' (fun q => w.heap.size ≤ q ∧ q < w'.heap.size) A (rawAll l)) ∨ (¬ allR l ∧ n = 0 ∧ k = 2) ∨ (allR l ∧ ¬ l.length ≤ 40 ∧ n = 0 ∧ k = 3))
theorem Raw_got (A : Option Addr) (l : List Ob) (c : Nat) (hm : l.length ≤ 9223372036854775807) (hw : ∀ o ∈ l, o.ws.length ≤ 9223372036854775807) (w : World) (hl : Obs w (· < w.heap.size) A l) :
    Calls Try.prog 8 #[.slice A l.length c] w (RawGot l w) :=
  (Raw_any A l c hm hw w hl).mono fun e w' ⟨hb, h⟩ => by
    rcases h with ⟨h1, h2, v, rfl, ho⟩ | ⟨h1, rfl⟩ | ⟨h1, h2, rfl⟩
    · obtain ⟨A2, c2, rfl, hc, hc2, hl2⟩ := OwnL.lie ho byV_len
      refine ⟨A2, _, c2, 0, rfl, hb, .inl ⟨h1, h2, rfl, hc, hc2, rfl, fun h0 => ?_⟩⟩
      obtain ⟨ad, e, hb2, hc3⟩ := hl2 h0
      subst e
      exact ⟨ad, rfl, ⟨OwnL.from_ ho ad rfl, hb2⟩, hc3⟩
    · exact ⟨none, 0, 0, 2, rfl, hb, .inr (.inl ⟨h1, rfl, rfl⟩)⟩
    · exact ⟨none, 0, 0, 3, rfl, hb, .inr (.inr ⟨h1, h2, rfl, rfl⟩)⟩
set_option maxRecDepth 100000 in
set_option maxHeartbeats 16000000 in
theorem raws_walk (A : Option Addr) (l : List Ob) (c : Nat) (hm : l.length ≤ 9223372036854775807) (hw : ∀ o ∈ l, o.ws.length ≤ 9223372036854775807) (w : World) (hl : Obs w (· < w.heap.size) A l) :
    Calls Try.prog 3 #[.slice A l.length c] w fun e w' => e = .returned (.bool true) ∧ Below w.heap.size w w' := by
  obtain ⟨i0, hi0, hz0, hz1, hz2⟩ := info_parts byteInfo
  have HL := hidd hl
  have HW := hidd hw
  have HM := hidd hm
  have CF := hidd (few_any A l c hm w hl)
  have CR := hidd (fun W h => Raw_got A l c hm hw W h)
  have CK := hidd (fun W => known_any W)
  clear hl hw hm
  go_enter Try.func3, Try.ntmps3
  go_wp2_with fail
  refine CF.out.mono ?_
  rintro e w1 ⟨R, rfl, hR, hb1⟩
  have HB1 := hidd hb1
  have HR := hidd hR
  clear hb1 hR
  cases R
  · go_wp2_with fail
    refine (CK.out _).mono ?_
    rintro e w2 ⟨rfl, hb2⟩
    have HB2 := hidd (below_step HB1.out hb2)
    clear hb2
    go_wp2_with fail
    go_ret
    exact ⟨rfl, HB2.out⟩
  obtain ⟨h45, h70⟩ := HR.out.1 rfl
  have H70 := hidd h70
  clear h70
  go_wp2_with fail
  refine (CR.out _ (HL.out.below HB1.out)).mono ?_
  rintro e w2 ⟨Ab, n, cb, k, rfl, hb2, hres⟩
  have HB2 := hidd (below_step HB1.out hb2)
  have HRES := hidd hres
  clear hb2 hres
  go_wp2_with fail
  go_loopg [5, 6] (l.length + 1) (fun g s5 s6 wr => ∃ i : Nat, i ≤ l.length ∧ i + g = l.length + 1 ∧ s6 = .int .i64 (i : Int) ∧ OwnL byV 1 wr w2.heap.size 5 s5 (rawAll (l.take i)) ∧ (∀ o ∈ l.take i, rightB o.c o.t o.ws = true) ∧ Below w2.heap.size w2 wr)
  case atStart => exact ⟨0, by omega, by omega, by first | rfl | simp, by simpa [rawAll] using OwnL.nil _ _ _, by simp, Below.refl _ _⟩
  case round =>
    obtain ⟨i, hi, hg, rfl, hO, hrt, hB⟩ := hrel
    have HG := hidd hg
    have HRT := hidd hrt
    have HBB := hidd hB
    have HBW := hidd (below_step HB2.out hB)
    obtain ⟨A5, c5, rfl, hc5, hcx5, _⟩ := OwnL.lie hO byV_len
    have HO := hidd hO
    clear hg hrt hB hO
    by_cases hil : i < l.length
    · have hil2 : (i : Int) < (l.length : Int) := by omega
      have hOA := HL.out.below HBW.out
      obtain ⟨ad, rfl, ha, x0, x1, x2⟩ := hOA.at_ i hil
      obtain ⟨Ai, ki, hva, hla⟩ := hOA.2 l[i] (List.getElem_mem hil)
      have hwl := HW.out l[i] (List.getElem_mem hil)
      have h70 := H70.out l[i] (List.getElem_mem hil)
      rw [hva] at x2
      rw [add_plain3 ad i 0] at x1
      rw [add_plain3 ad i 1] at x2
      have HRA := hidd (rawAll_take hil)
      have HRO : Hid (rawO l[i] = rawO ⟨l[i].c, l[i].t, .slice Ai l[i].ws.length ki, l[i].ws⟩) := hidd rfl
      have hlt := rawAll_len70 (l := l.take i) (fun o ho => H70.out o (List.mem_of_mem_take ho))
      rw [List.length_take] at hlt
      have hrl := rawO_len l[i]
      have HRI := hidd (show rightB l[i].c l[i].t l[i].ws = true → ∀ o ∈ l.take (i + 1), rightB o.c o.t o.ws = true from fun h o ho => by
        rw [List.take_add_one, List.getElem?_eq_getElem hil] at ho
        rcases List.mem_append.1 ho with h1 | h1
        · exact HRT.out o h1
        · have : o = l[i] := by simpa using h1
          subst this; exact h)
      have HNA := hidd (show rightB l[i].c l[i].t l[i].ws = false → ¬ allR l from fun h q => by have := q l[i] (List.getElem_mem hil); rw [h] at this; cases this)
      generalize rawO l[i] = RO at *
      generalize l[i].ws = ws at *
      generalize l[i].c = oc at *
      generalize l[i].t = ot at *
      have da : (ad.add (i * 3)).block < wr.heap.size := by rw [block_of_add]; exact ha
      have KEEP := hidd (fun (W : World) (h : Below wr.heap.size wr W) => (show W.cell? (ad.add (i * 3)) = some (.int .i64 oc) ∧ W.cell? ⟨(ad.add (i * 3)).block, (ad.add (i * 3)).off + (0 + 1), none⟩ = some (.int .i64 ot) ∧ W.cell? ⟨(ad.add (i * 3)).block, (ad.add (i * 3)).off + (1 + 1), none⟩ = some (.slice Ai ws.length ki) from
        ⟨(h.cell da).trans x0, (h.cell (p := ⟨(ad.add (i * 3)).block, (ad.add (i * 3)).off + (0 + 1), none⟩) da).trans x1, (h.cell (p := ⟨(ad.add (i * 3)).block, (ad.add (i * 3)).off + (1 + 1), none⟩) da).trans x2⟩))
      have cr := hidd (refRight7 oc ot Ai ws ki hwl wr hla)
      have cw := hidd (fun (hr : rightB oc ot ws = true) W (h : Below wr.heap.size wr W) => refRaw7 oc ot Ai ws ki hr W (hla.below h))
      have ew : IntKind.i64.wrap ((i : Int) + 1) = (i : Int) + 1 := IntWalk.i64_in _ (by omega)
      generalize hTL : rawAll (l.take i) = TL at *
      clear hva hla hwl hOA
      cases hrb : rightB oc ot ws
      · have HNAL := hidd (HNA.out hrb)
        rw [hrb] at cr
        clear hrb hTL
        obtain ⟨rfl, rfl⟩ : n = 0 ∧ k = 2 := by
          rcases HRES.out with ⟨h, _⟩ | ⟨_, h2, h3⟩ | ⟨h, _⟩
          · exact absurd h HNAL.out
          · exact ⟨h2, h3⟩
          · exact absurd h HNAL.out
        go_wp2_with fail
        refine cr.out.mono ?_
        rintro e w3 ⟨rfl, hb3⟩
        have HB3 := hidd (below_step HBW.out hb3)
        clear hb3
        go_wp2_with fail
        refine (CK.out _).mono ?_
        rintro e w4 ⟨rfl, hb4⟩
        have HB4 := hidd (below_step HB3.out hb4)
        clear hb4
        go_wp2_with fail
        go_ret
        exact ⟨by first | rfl | simp, HB4.out⟩
      · have HRN := hidd (HRI.out hrb)
        have cw2 := hidd (cw.out hrb)
        rw [hrb] at cr
        clear hrb
        go_wp2_with fail
        refine cr.out.mono ?_
        rintro e w3 ⟨rfl, hb3⟩
        obtain ⟨k0, k1, k2⟩ := KEEP.out _ hb3
        have c3 := hidd (cw2.out w3 hb3)
        have HB3 := hidd (below_step HBB.out hb3)
        have HO3 := hidd (HO.out.below hb3)
        clear hb3 x0 x1 x2
        go_wp2_with fail
        refine c3.out.mono ?_
        rintro e w4 ⟨v4, rfl, ho4, hb4⟩
        have HB4 := hidd (below_step HB3.out hb4)
        have HO4 := hidd (HO3.out.below hb4)
        obtain ⟨A6, c6, rfl, _, _, _⟩ := OwnL.lie ho4 byV_len
        rw [← HRO.out] at ho4 ⊢
        have HS := hidd ho4
        have hs42 := HB4.out.size
        clear hb4 ho4
        go_wp2_with (at_builtin; refine wpList_append_some (by rfl) (.tmp 40) (.tmp 45) _ (by rfl) w2.heap.size 5 i0 _ 1 1 Try.underlying25 hi0 hz0 hz1 hz2 rfl (by omega) _ _ _ (by rfl) HO4.out A6 (4 + 4 * ws.length) c6 (rowOf byV RO) (by rfl) (by rw [← hrl]; exact row_len byV_len RO) (by rw [← hrl]; exact OwnL.src HS.out) (rowOf_one byV_one RO) (by simp only [maxLen]; omega) (by omega) (by omega) ?_; intro v1 wa hown1 hgrow1 hat1)
        have HP := hidd (And.intro hown1 hgrow1)
        clear hown1 hgrow1 hat1
        have hg := HG.out
        go_roundg (gk - 1)
        case measure => omega
        case rel =>
          obtain ⟨hown1, hgrow1⟩ := HP.out
          refine ⟨i + 1, by omega, by omega, by go_num, ?_, HRN.out, ?_⟩
          · rw [HRA.out]
            unfold OwnL
            rw [List.length_append, hrl, show rowOf byV (TL ++ RO) = rowOf byV TL ++ rowOf byV RO by simp [rowOf]]
            exact hown1
          · exact Below.grown HB4.out hgrow1 (by omega) (fun k hk => (OwnL.lt HO4.out k hk).1)
    · obtain rfl : i = l.length := by omega
      have hil2 : ¬ (l.length : Int) < (l.length : Int) := by omega
      have hall : allR l := fun o ho => HRT.out o (by rw [List.take_length]; exact ho)
      have HALL := hidd hall
      have htk : rawAll (l.take l.length) = rawAll l := by rw [List.take_length]
      rw [htk] at hc5
      have HOW : Hid (OwnL byV 1 wr w2.heap.size 5 (.slice A5 (rawAll l).length c5) (rawAll l)) := hidd (by have q := HO.out; rw [htk] at q; exact q)
      rw [htk]
      clear htk hall HO
      by_cases h40 : l.length ≤ 40
      · obtain ⟨hn, hnc, hcm, rfl, hlb⟩ : n = (rawAll l).length ∧ n ≤ cb ∧ cb ≤ maxLen ∧ k = 0 ∧ LieQ byV 1 w2 (fun q => w1.heap.size ≤ q ∧ q < w2.heap.size) Ab (rawAll l) := by
          rcases HRES.out with ⟨_, _, h1, h2, h3, h4, h5⟩ | ⟨h, _⟩ | ⟨_, h, _⟩
          · exact ⟨h1, h2, h3, h4, h5⟩
          · exact absurd HALL.out h
          · exact absurd h40 h
        subst hn
        have hln := rawAll_len70 H70.out
        have h4i : ¬ (40 : Int) < (l.length : Int) := by omega
        have hlr : LieQ byV 1 wr (· < wr.heap.size) Ab (rawAll l) := hlb.to (fun q hq => ⟨Nat.lt_of_lt_of_le hq.2 HBB.out.size, HBB.out.block q hq.2⟩)
        have HPA := hidd (Parse_any Ab (rawAll l) cb (by omega) hnc hcm (rawAll_bytes l) wr hlr)
        obtain ⟨hgd, hks⟩ := raw_good (l := l.map keyO) (fun x hx => by
          obtain ⟨o, ho, rfl⟩ := List.mem_map.1 hx
          exact HALL.out o ho) (by rw [List.length_map]; exact h40)
        rw [← rawAll_keys] at hgd hks
        have HGD := hidd (And.intro hgd hks)
        have HLR := hidd hlr
        have HCV := hidd (fun A n c (hn : (rawAll l).length = n) W B h => conv_any A (rawAll l) n c hn W B h)
        generalize strOfNums (rawAll l) = S at *
        clear hlb hln hlr hgd hks hnc hcm
        go_wp2_with fail
        refine HPA.out.mono ?_
        rintro e w3 ⟨hb3, (⟨kk, os, A3, c3, hg1, hg2, rfl, hos⟩ | ⟨hno, _⟩)⟩
        rotate_left
        · exact absurd HGD.out.1 (hno _)
        obtain rfl := Good.one hg1 HGD.out.1
        rw [HGD.out.2] at hg2
        have k1 := HCV.out Ab _ cb rfl w3 w3.heap.size (LieQ.lie (HLR.out.below hb3))
        have k2 := HCV.out A5 _ c5 rfl w3 w3.heap.size (by
          obtain ⟨A6, c6, e6, _, _, q6⟩ := OwnL.lie (HOW.out.below hb3) byV_len
          cases e6
          exact q6)
        have HB3 := hidd (below_step HBW.out hb3)
        have cs := hidd (same7 A3 os c3 A l c hg2 (by have := key_len hg2; omega) (fun o ho => by
          obtain ⟨j, hj, rfl⟩ := List.mem_iff_getElem.1 ho
          have hj2 : j < l.length := by have := key_len hg2; omega
          have e3 := (key_at hg2 hj hj2).2.2
          rw [e3]
          exact HW.out _ (List.getElem_mem hj2)) w3 (hos.to (fun q hq => ⟨hq.2, rfl⟩)) (HL.out.below HB3.out))
        have HKL := hidd (key_len hg2)
        clear hb3 hg1 hg2 hos
        go_wp2_with fail
        refine cs.out.mono ?_
        rintro e w4 ⟨rfl, hb4⟩
        have HB4 := hidd (below_step HB3.out hb4)
        clear hb4
        go_wp2_with fail
        refine (CK.out _).mono ?_
        rintro e w5 ⟨rfl, hb5⟩
        have HB5 := hidd (below_step HB4.out hb5)
        clear hb5
        go_wp2_with fail
        go_ret
        exact ⟨by first | rfl | simp, HB5.out⟩
      · obtain ⟨rfl, rfl⟩ : n = 0 ∧ k = 3 := by
          rcases HRES.out with ⟨_, h, _⟩ | ⟨h, _⟩ | ⟨_, _, h1, h2⟩
          · exact absurd h h40
          · exact absurd HALL.out h
          · exact ⟨h1, h2⟩
        have h4i : (40 : Int) < (l.length : Int) := by omega
        go_wp2_with fail
        refine (CK.out _).mono ?_
        rintro e w4 ⟨rfl, hb4⟩
        have HB4 := hidd (below_step HBW.out hb4)
        clear hb4
        go_wp2_with fail
        go_ret
        exact ⟨by first | rfl | simp, HB4.out⟩
end Go.Proofs.Ytnneolkedekfbaa
