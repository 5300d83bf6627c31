/- Curves: the lines of the curve that is the least of some lines. -/
import Derived.Test.YtpgaklfgbioocaaCvK
import Derived.Deep.LoopGhost
namespace Go.Proofs.Ytpgaklfgbioocaa
set_option linter.unusedVariables false
open Go.RowKit Go.Proofs.Ytpgaklfgbioocaa.RowK

theorem row_take (f : Int × Int → List Value) (hf : ∀ x, (f x).length = 2) (L : List (Int × Int)) (m : Nat) : (rowOf f L).take (m * 2) = rowOf f (L.take m) := by
  induction L generalizing m with
  | nil => simp [rowOf]
  | cons x L ih =>
    cases m with
    | zero => simp [rowOf]
    | succ m =>
      have e : (m + 1) * 2 = (f x).length + m * 2 := by rw [hf]; omega
      simp only [rowOf, List.flatMap_cons, List.take_succ_cons] at *
      rw [e, List.take_length_add_append, ih m]
theorem OwnL.take {w : World} {base g cap : Nat} {e : TypeId} {L : List (Int × Int)} (h : OwnL sendV 2 w base e (.slice (some ⟨g, 0, none⟩) L.length cap) L) {m : Nat} (hm : m ≤ L.length) : OwnL sendV 2 w base e (.slice (some ⟨g, 0, none⟩) m cap) (L.take m) := by
  have hl : (L.take m).length = m := CM.take_len hm
  obtain ⟨h0, h1⟩ := h
  rcases h1 with ⟨hv, _⟩ | ⟨g', cap', cur, hv, hb, hh, hn, hc1, hc, ht⟩
  · cases hv
  cases hv
  refine ⟨by rw [row_len sendV_len], .inr ⟨g, cap, cur, by rw [hl], hb, hh, by omega, hc1, hc, ?_⟩⟩
  rw [hl, ← row_take sendV sendV_len, ← ht, List.take_take, Nat.min_eq_left (by omega)]
theorem add_zero_off (g j : Nat) : (⟨g, 0, none⟩ : Addr).add j = ⟨g, j, none⟩ := by
  unfold Addr.add
  by_cases h : j = 0
  · subst h; simp
  · simp [h]
theorem OwnL.form {w : World} {base : Nat} {e : TypeId} {v : Value} {L : List (Int × Int)} (h : OwnL sendV 2 w base e v L) (h0 : 0 < L.length) : ∃ g cap, v = .slice (some ⟨g, 0, none⟩) L.length cap ∧ (base ≤ g ∧ g < w.heap.size) ∧ (L.length ≤ cap ∧ cap ≤ maxLen) ∧ ∀ i, i < L.length → w.cell? ⟨g, i * 2, none⟩ = some (.int .i64 (SM.av L i)) ∧ w.cell? ⟨g, i * 2 + 1, none⟩ = some (.int .i64 (SM.sv L i)) := by
  have h' := h
  obtain ⟨_, h1⟩ := h
  rcases h1 with ⟨hv, hn⟩ | ⟨g', cap', cur, rfl, hb, hh, hn, hc1, hc, ht⟩
  · omega
  refine ⟨g', cap', rfl, ⟨hb, (Array.getElem?_eq_some_iff.1 hh).1⟩, ⟨hn, hc1⟩, fun i hi => ?_⟩
  obtain ⟨A, c, e1, _, _, hl⟩ := h'.lie sendV_len
  injection e1 with e1
  subst e1
  obtain ⟨ad, e2, _, x0, x1⟩ := hl.send i hi
  injection e2 with e2
  subst e2
  rw [(av_at hi).1] at x0
  rw [(av_at hi).2] at x1
  rw [add_zero_off] at x0 x1
  exact ⟨x0, x1⟩
/-- may all of some lines be. -/
def okL (L : List (Int × Int)) : Prop := ∀ x ∈ L, 0 ≤ x.1 ∧ x.1 ≤ 2000000000 ∧ 0 ≤ x.2 ∧ x.2 ≤ 2000000000
theorem okL.at_ {L : List (Int × Int)} (h : okL L) {i : Nat} (hi : i < L.length) : 0 ≤ SM.av L i ∧ SM.av L i ≤ 2000000000 ∧ 0 ≤ SM.sv L i ∧ SM.sv L i ≤ 2000000000 := by
  have := h L[i] (List.getElem_mem hi)
  rw [(av_at hi).1, (av_at hi).2] at this
  exact this
theorem hull_ok {S : List (Int × Int)} (h : okL S) (q : Nat) : okL (CM.hull (S.take q)) := fun x hx => h x (List.mem_of_mem_take (CM.hull_mem _ x hx))
theorem hull_next {S : List (Int × Int)} {q : Nat} (h : q < S.length) : CM.hull (S.take (q + 1)) = CM.keep (CM.hull (S.take q)) (SM.av S q, SM.sv S q) (CM.hull (S.take q)).length := by
  rw [take_one h, CM.hull_snoc]
theorem hull_short (S : List (Int × Int)) (q : Nat) : (CM.hull (S.take q)).length ≤ q := Nat.le_trans (CM.hull_len _) (by simp; omega)
set_option maxRecDepth 100000 in
set_option maxHeartbeats 4000000 in
theorem lowest_any (A : Option Addr) (k : Nat) (cs : List Crv) (hlen : cs.length ≤ 1000000) (hlen2 : ∀ c ∈ cs, c.2.length ≤ 1000000) (hall : (allLines cs).length ≤ 1000000) (hne : allLines cs ≠ []) (hok : okL (allLines cs)) (w : World) (hC : Curves w w.heap.size A cs) :
    Calls Try.prog 23 #[.slice A cs.length k] w fun e w' => ∃ v, e = .returned v ∧ OwnL sendV 2 w' w.heap.size 44 v (CM.low (allLines cs)) ∧ Below w.heap.size w w' := by
  have hb0 := below_new (Below.refl w.heap.size w) (.cells #[.slice A cs.length k] 22)
  have cj := hidd (fun W => callsIn_wide.1 (joined_in Fence.wide 6 trivial rfl A cs.length k W))
  have co := hidd (inOrder_any sortsLines w.heap.size A k cs hlen hlen2 hall hne (w.alloc (.cells #[.slice A cs.length k] 22)) (by simp) (by simp [go_sem]) ((hC.keep hb0).more (by simp)))
  obtain ⟨i0, hi, hz0, hz1, hz2⟩ := info_parts lineInfo
  have hSl : (CM.sortL (allLines cs)).length = (allLines cs).length := (CM.sortL_perm _).length_eq
  have hSok : okL (CM.sortL (allLines cs)) := fun x hx => hok x ((CM.sortL_perm _).mem_iff.1 hx)
  have hlow : CM.low (allLines cs) = CM.hull ((CM.sortL (allLines cs)).take (CM.sortL (allLines cs)).length) := by rw [List.take_length]; rfl
  rw [hlow]
  rw [← hSl] at co hall
  have hS1 : 0 < (CM.sortL (allLines cs)).length := by rw [hSl]; exact List.length_pos_iff.2 hne
  clear hC hok hSl hlow hne
  generalize CM.sortL (allLines cs) = S at *
  have HSok := hidd hSok
  have HB0 := hidd hb0
  clear hSok hb0
  go_enter Try.func23, Try.ntmps23
  go_wp2_with fail
  go_step3
  go_wp2_with fail
  refine (cj.out _).mono ?_
  rintro e w1 ⟨rfl, rfl⟩
  go_wp2_with fail
  refine co.out.mono ?_
  rintro e w1 ⟨g, cap, rfl, hO, hB⟩
  have HS := hidd hO
  have HB := hidd (HB0.out.trans (hB.mono HB0.out.size))
  clear hO hB
  go_wp2_with fail
  go_step3
  go_wp2_with fail
  obtain ⟨hg0, hg1⟩ := HS.out.lt g rfl
  obtain ⟨g2, cap2, e2, _, _, hcells⟩ := HS.out.form hS1
  obtain ⟨rfl, rfl⟩ : g = g2 ∧ cap = cap2 := by cases e2; exact ⟨rfl, rfl⟩
  have HC := hidd hcells
  clear hcells e2
  go_loopg [4, 13] (S.length + 2) (fun k s4 s13 wr => ∃ q : Nat, q ≤ S.length ∧ q + k = S.length + 2 ∧ s13 = .int .i64 (q : Int) ∧ OwnL sendV 2 wr w1.heap.size 44 s4 (CM.hull (S.take q)) ∧ Below w1.heap.size w1 wr)
  case atStart => exact ⟨0, by omega, by omega, rfl, OwnL.nil _ _ _, Below.refl _ _⟩
  case round =>
    obtain ⟨q, hq, hg, rfl, hO, hB2⟩ := hrel
    have HG := hidd hg
    clear hg
    by_cases hin : q < S.length
    · have hin2 : (q : Int) < (S.length : Int) := by omega
      have hq0 : (0 : Int) ≤ (q : Int) := by omega
      obtain ⟨x0, x1⟩ := HC.out q hin
      have y0 := (hB2.cell (p := ⟨g, q * 2, none⟩) hg1).trans x0
      have y1 := (hB2.cell (p := ⟨g, q * 2 + 1, none⟩) hg1).trans x1
      have HKP := hidd (hull_next hin)
      have hHs := hull_short S q
      have HOK := hidd (hull_ok HSok.out q)
      obtain ⟨o0, o1, o2, o3⟩ := HSok.out.at_ hin
      clear x0 x1
      generalize CM.hull (S.take q) = H at *
      generalize SM.av S q = a0 at *
      generalize SM.sv S q = a1 at *
      have HO := hidd hO
      have HB2 := hidd hB2
      obtain ⟨A4, c4, rfl, hc40, hc41, _⟩ := hO.lie sendV_len
      clear hO hB2
      go_wp2_with fail
      obtain ⟨gko, rfl⟩ : ∃ g', g' = gk := ⟨gk, rfl⟩
      obtain ⟨wo, rfl⟩ : ∃ wo : World, wo = wr := ⟨_, rfl⟩
      have hbx := LineBox.new wo 44 a0 a1
      have HBX := hidd hbx
      clear hbx
      go_loopg [4, 7] (H.length + 2) (fun k s4 s7 wx => ∃ m : Nat, m ≤ H.length ∧ k = m + 2 ∧ s7 = .int .i64 (m : Int) ∧ OwnL sendV 2 wx w1.heap.size 44 s4 (H.take m) ∧ Hid (CM.keep H (a0, a1) H.length = CM.keep H (a0, a1) m) ∧ Below w1.heap.size w1 wx ∧ LineBox wx wo.heap.size a0 a1)
      case atStart => exact ⟨H.length, by omega, by omega, rfl, by rw [List.take_length]; exact HO.out.alloc _, hidd rfl, below_new HB2.out _, HBX.out⟩
      case round =>
        obtain ⟨m, hm, hg, rfl, hO3, HEQ, hB3, hX3⟩ := hrel
        have HGI := hidd hg
        have HO3 := hidd hO3
        have HB3 := hidd hB3
        obtain ⟨hx9, x0, x1⟩ := id hX3
        have HX3 := hidd hX3
        have hml := CM.take_len hm
        have hml2 : (H.take m).length ≤ 1000000 := by omega
        clear hg hX3
        rcases Nat.eq_zero_or_pos m with rfl | hm0
        · clear hO3 hB3 hml
          have HKe : CM.hull (S.take (q + 1)) = H.take (0) ++ [(a0, a1)] := by rw [HKP.out, HEQ.out]; rfl
          have HKE := hidd HKe
          clear HKe
          go_wp2_with (at_builtin; refine wpList_append_some (by rfl) (.tmp 60) (.tmp 62) _ (by rfl) w1.heap.size 44 i0 _ 2 16 Try.underlying25 hi hz0 hz1 hz2 rfl (by omega) _ _ _ (by rfl) (World.ownsRow.alloc HO3.out _) (some ⟨_, 0, none⟩) 1 1 [.int .i64 a0, .int .i64 a1] (by rfl) (by rfl) (fun _ => ⟨_, rfl, World.news_of_block (cs := #[.int .i64 a0, .int .i64 a1]) (t := 44) (fr := (0, 0)) (heap_alloc_new _ _)⟩) (by simp [Value.oneCell']) (by simp only [maxLen]; omega) (by omega) (by have := HB3.out.size; first | omega | (simp; omega)) ?_; intro v1 wa hown1 hgrow1 hat1)
          have hB4 : Below w1.heap.size w1 wa := Below.grown (below_new HB3.out _) hgrow1 (by have := HB3.out.size; first | omega | (simp; omega)) (fun k hk => (OwnL.lt HO3.out k hk).1)
          have hO4 : OwnL sendV 2 wa w1.heap.size 44 v1 (CM.hull (S.take (q + 1))) := by rw [HKE.out]; exact OwnL.snoc (f := sendV) (L := H.take (0)) (x := (a0, a1)) hown1 rfl rfl
          have hgk := HG.out
          have hB4' := hidd hB4
          have hO4' := hidd hO4
          clear hB4 hO4 hown1 hgrow1 hat1
          go_wp2_with fail
          go_roundg (gko - 1)
          case measure => omega
          case rel => exact ⟨q + 1, by omega, by omega, by go_num, hO4'.out, hB4'.out⟩
        · obtain ⟨p, rfl⟩ : ∃ p, m = p + 1 := ⟨m - 1, by omega⟩
          obtain ⟨g3, cap3, rfl, ⟨hg30, hg31⟩, ⟨hc30, hc31⟩, hcl⟩ := hO3.form (by omega)
          rw [hml] at hc30 hcl HO3 ⊢
          obtain ⟨z0, z1⟩ := hcl p (by omega)
          rw [(CM.av_take (L := H) (show p < p + 1 by omega)).1] at z0
          rw [(CM.av_take (L := H) (show p < p + 1 by omega)).2] at z1
          have HCL := hidd hcl
          have hp1 : IntKind.i64.wrap (((p + 1 : Nat) : Int) - 1) = (p : Int) := by rw [IntWalk.i64_in _ (by omega)]; omega
          have hp2 : (0 : Int) ≤ (p : Int) := by omega
          have hp3 : (p : Int) < ((p + 1 : Nat) : Int) := by omega
          have hp4 : (0 : Int) < ((p + 1 : Nat) : Int) := by omega
          have hkeep : CM.keep H (a0, a1) (p + 1) = if SM.sv H p ≤ a1 then H.take (p + 1) else if p = 0 ∨ (SM.av H p - SM.av H (p - 1)) * (SM.sv H p - a1) < (a0 - SM.av H p) * (SM.sv H (p - 1) - SM.sv H p) then H.take (p + 1) ++ [(a0, a1)] else CM.keep H (a0, a1) p := rfl
          have HKK := hidd hkeep
          obtain ⟨b0, b1, b2, b3⟩ := HOK.out.at_ (i := p) (by omega)
          clear hkeep hcl hO3 hB3 hml hm0
          by_cases hsk : SM.sv H p ≤ a1
          · have hrel1 : CM.hull (S.take (q + 1)) = H.take (p + 1) := by rw [HKP.out, HEQ.out, HKK.out, if_pos hsk]
            have HR1 := hidd hrel1
            clear hrel1
            generalize SM.sv H p = e1 at *
            generalize SM.av H p = e0 at *
            go_wp2_with fail
            go_quiet (fail)
            go_wp2_with fail
            have hgk := HG.out
            go_roundg (gko - 1)
            case measure => omega
            case rel => exact ⟨q + 1, by omega, by omega, by go_num, by rw [HR1.out]; exact HO3.out, HB3.out.trans (by (repeat' (first | (with_reducible exact Below.refl _ _) | (with_reducible assumption) | (with_reducible apply Below.setCell) | (with_reducible apply Below.alloc) | (with_reducible apply Below.drew) | (with_reducible apply below_drewN) | (with_reducible refine Below.trans ?_ (Below.mono (by assumption) ?_)) | omega | (simp; done) | (simp; omega))))⟩
          · have hcut0 := HB3.out
            have hlt1 : a1 < SM.sv H p := by omega
            go_wp2_with fail
            go_cut [31] (fun s wx => s = .bool false ∧ OwnL sendV 2 wx w1.heap.size 44 (.slice (some ⟨g3, 0, none⟩) (p + 1) cap3) (H.take (p + 1)) ∧ Below w1.heap.size w1 wx ∧ LineBox wx wo.heap.size a0 a1)
            case first =>
              generalize SM.sv H p = e1 at *
              generalize SM.av H p = e0 at *
              go_quiet (fail)
              go_wp2_with fail
              go_meet
              exact ⟨by simp; omega, HO3.out, HB3.out.trans (by (repeat' (first | (with_reducible exact Below.refl _ _) | (with_reducible assumption) | (with_reducible apply Below.setCell) | (with_reducible apply Below.alloc) | (with_reducible apply Below.drew) | (with_reducible apply below_drewN) | (with_reducible refine Below.trans ?_ (Below.mono (by assumption) ?_)) | omega | (simp; done) | (simp; omega)))), HX3.out.step (by (repeat' (first | (with_reducible exact Below.refl _ _) | (with_reducible assumption) | (with_reducible apply Below.setCell) | (with_reducible apply Below.alloc) | (with_reducible apply Below.drew) | (with_reducible apply below_drewN) | (with_reducible refine Below.trans ?_ (Below.mono (by assumption) ?_)) | omega | (simp; done) | (simp; omega))))⟩
            case rest =>
              obtain ⟨rfl, hO5, hB5, hX5⟩ := hcut
              have HO5 := hidd hO5
              have HB5 := hidd hB5
              have HX5 := hidd hX5
              clear HO3 HB3 HX3 hcut0 hO5 hB5 hX5 x0 x1 z0 z1 HCL
              by_cases hp0 : p = 0
              · subst hp0
                have hone : CM.keep H (a0, a1) (0 + 1) = H.take (0 + 1) ++ [(a0, a1)] := by rw [HKK.out, if_neg (by omega), if_pos (.inl rfl)]
                have HONE := hidd hone
                clear hone
                go_wp2_with fail
                go_cut [55] (fun s wx => s = .bool true ∧ OwnL sendV 2 wx w1.heap.size 44 (.slice (some ⟨g3, 0, none⟩) (0 + 1) cap3) (H.take (0 + 1)) ∧ Below w1.heap.size w1 wx ∧ LineBox wx wo.heap.size a0 a1)
                case first =>
                  go_quiet (fail)
                  go_wp2_with fail
                  go_meet
                  exact ⟨rfl, HO5.out, HB5.out.trans (by (repeat' (first | (with_reducible exact Below.refl _ _) | (with_reducible assumption) | (with_reducible apply Below.setCell) | (with_reducible apply Below.alloc) | (with_reducible apply Below.drew) | (with_reducible apply below_drewN) | (with_reducible refine Below.trans ?_ (Below.mono (by assumption) ?_)) | omega | (simp; done) | (simp; omega)))), HX5.out.step (by (repeat' (first | (with_reducible exact Below.refl _ _) | (with_reducible assumption) | (with_reducible apply Below.setCell) | (with_reducible apply Below.alloc) | (with_reducible apply Below.drew) | (with_reducible apply below_drewN) | (with_reducible refine Below.trans ?_ (Below.mono (by assumption) ?_)) | omega | (simp; done) | (simp; omega))))⟩
                case rest =>
                  obtain ⟨rfl, hO6, hB6, hX6⟩ := hcut
                  have HO3 := hidd hO6
                  have HB3 := hidd hB6
                  obtain ⟨hx9, x0, x1⟩ := id hX6
                  clear hO6 hB6 hX6
                  have HKe : CM.hull (S.take (q + 1)) = H.take (0 + 1) ++ [(a0, a1)] := by rw [HKP.out, HEQ.out]; exact HONE.out
                  have HKE := hidd HKe
                  clear HKe
                  go_wp2_with (at_builtin; refine wpList_append_some (by rfl) (.tmp 60) (.tmp 62) _ (by rfl) w1.heap.size 44 i0 _ 2 16 Try.underlying25 hi hz0 hz1 hz2 rfl (by omega) _ _ _ (by rfl) (World.ownsRow.alloc HO3.out _) (some ⟨_, 0, none⟩) 1 1 [.int .i64 a0, .int .i64 a1] (by rfl) (by rfl) (fun _ => ⟨_, rfl, World.news_of_block (cs := #[.int .i64 a0, .int .i64 a1]) (t := 44) (fr := (0, 0)) (heap_alloc_new _ _)⟩) (by simp [Value.oneCell']) (by simp only [maxLen]; omega) (by omega) (by have := HB3.out.size; first | omega | (simp; omega)) ?_; intro v1 wa hown1 hgrow1 hat1)
                  have hB4 : Below w1.heap.size w1 wa := Below.grown (below_new HB3.out _) hgrow1 (by have := HB3.out.size; first | omega | (simp; omega)) (fun k hk => (OwnL.lt HO3.out k hk).1)
                  have hO4 : OwnL sendV 2 wa w1.heap.size 44 v1 (CM.hull (S.take (q + 1))) := by rw [HKE.out]; exact OwnL.snoc (f := sendV) (L := H.take (0 + 1)) (x := (a0, a1)) hown1 rfl rfl
                  have hgk := HG.out
                  have hB4' := hidd hB4
                  have hO4' := hidd hO4
                  clear hB4 hO4 hown1 hgrow1 hat1
                  go_wp2_with fail
                  go_roundg (gko - 1)
                  case measure => omega
                  case rel => exact ⟨q + 1, by omega, by omega, by go_num, hO4'.out, hB4'.out⟩
              · obtain ⟨r, hr⟩ : ∃ r, p = r + 1 := ⟨p - 1, by omega⟩
                have hcl := (HO5.out.form (by rw [CM.take_len (by omega)]; omega))
                rw [CM.take_len (show p + 1 ≤ H.length by omega)] at hcl
                obtain ⟨g4, cap4, e4, ⟨hgb, hgz⟩, _, hcl⟩ := hcl
                obtain ⟨rfl, rfl⟩ : g3 = g4 ∧ cap3 = cap4 := by cases e4; exact ⟨rfl, rfl⟩
                obtain ⟨z0, z1⟩ := hcl p (by omega)
                obtain ⟨y0, y1⟩ := hcl r (by omega)
                rw [(CM.av_take (L := H) (show p < p + 1 by omega)).1] at z0
                rw [(CM.av_take (L := H) (show p < p + 1 by omega)).2] at z1
                rw [(CM.av_take (L := H) (show r < p + 1 by omega)).1] at y0
                rw [(CM.av_take (L := H) (show r < p + 1 by omega)).2] at y1
                obtain ⟨d0, d1, d2, d3⟩ := HOK.out.at_ (i := r) (by omega)
                have hp5 : IntKind.i64.wrap (((p + 1 : Nat) : Int) - 2) = (r : Int) := by rw [IntWalk.i64_in _ (by omega)]; omega
                have hp6 : (0 : Int) ≤ (r : Int) := by omega
                have hp7 : (r : Int) < ((p + 1 : Nat) : Int) := by omega
                have hp8 : ((p : Int) + 1 == 1) = false := beq_eq_false_iff_ne.2 (by omega)
                have hp9 : ((p : Int) == 0) = false := beq_eq_false_iff_ne.2 (by omega)
                have hp10 : IntKind.i64.wrap ((p : Int) + 1 - 2) = (r : Int) := by rw [IntWalk.i64_in _ (by omega)]; omega
                have hp11 : IntKind.i64.wrap ((p : Int) + 1 - 1) = (p : Int) := by rw [IntWalk.i64_in _ (by omega)]; omega
                have hp14 : IntKind.i64.wrap (p : Int) = (p : Int) := IntWalk.i64_in _ (by omega)
                have hp12 : (r : Int) < (p : Int) + 1 := by omega
                have hp13 : (p : Int) < (p : Int) + 1 := by omega
                have hkk : (¬ (SM.av H p - SM.av H r) * (SM.sv H p - a1) < (a0 - SM.av H p) * (SM.sv H r - SM.sv H p) → CM.keep H (a0, a1) (p + 1) = CM.keep H (a0, a1) p) ∧ ((SM.av H p - SM.av H r) * (SM.sv H p - a1) < (a0 - SM.av H p) * (SM.sv H r - SM.sv H p) → CM.keep H (a0, a1) (p + 1) = H.take (p + 1) ++ [(a0, a1)]) := by
                  have e5 : p - 1 = r := by omega
                  have h6 := HKK.out
                  rw [e5, if_neg (by omega)] at h6
                  constructor
                  · intro h; rw [h6, if_neg (fun h' => h'.elim hp0 h)]
                  · intro h; rw [h6, if_pos (.inr h)]
                have HKK2 := hidd hkk
                have cb1 := hidd (fun W => bendOf_any (SM.av H r) (SM.sv H r) (SM.av H p) (SM.sv H p) d0 d1 d2 d3 b0 b1 b2 b3 W)
                have cb2 := hidd (fun W => bendOf_any (SM.av H p) (SM.sv H p) a0 a1 b0 b1 b2 b3 o0 o1 o2 o3 W)
                have cag := hidd (fun W => against_any (SM.av H p - SM.av H r) (SM.sv H r - SM.sv H p) (a0 - SM.av H p) (SM.sv H p - a1) (by omega) (by omega) W)
                obtain ⟨hx9, x0, x1⟩ := id HX5.out
                obtain ⟨V, hV⟩ : ∃ V, cmpV ((SM.av H p - SM.av H r) * (SM.sv H p - a1)) ((a0 - SM.av H p) * (SM.sv H r - SM.sv H p)) = V := ⟨_, rfl⟩
                rw [hV] at cag
                have hVs : V < 0 ↔ (SM.av H p - SM.av H r) * (SM.sv H p - a1) < (a0 - SM.av H p) * (SM.sv H r - SM.sv H p) := by
                  rw [← hV]
                  generalize (SM.av H p - SM.av H r) * (SM.sv H p - a1) = X
                  generalize (a0 - SM.av H p) * (SM.sv H r - SM.sv H p) = Y
                  unfold cmpV
                  by_cases h1 : X < Y
                  · rw [if_pos h1]; omega
                  · rw [if_neg h1]; split <;> omega
                obtain ⟨T, hT⟩ : ∃ T, decide (V < 0) = T := ⟨_, rfl⟩
                have hTt : (T = true → CM.keep H (a0, a1) (p + 1) = H.take (p + 1) ++ [(a0, a1)]) ∧ (T = false → CM.keep H (a0, a1) (p + 1) = CM.keep H (a0, a1) p) := by
                  constructor
                  · intro h; exact HKK2.out.2 (hVs.1 (by rw [h] at hT; exact of_decide_eq_true hT))
                  · intro h; exact HKK2.out.1 (fun g => by have := hVs.2 g; rw [h] at hT; exact absurd this (of_decide_eq_false hT))
                have HTT := hidd hTt
                clear hTt hVs hV HKK2 HKK hcl e4 hlt1 hp1
                have hp1 : IntKind.i64.wrap (((p + 1 : Nat) : Int) - 1) = (p : Int) := by rw [IntWalk.i64_in _ (by omega)]; omega
                have hkp : ∀ w', Below wc.heap.size wc w' → w'.cell? ⟨g3, r * 2, none⟩ = some (.int .i64 (SM.av H r)) ∧ w'.cell? ⟨g3, r * 2 + 1, none⟩ = some (.int .i64 (SM.sv H r)) ∧ w'.cell? ⟨g3, p * 2, none⟩ = some (.int .i64 (SM.av H p)) ∧ w'.cell? ⟨g3, p * 2 + 1, none⟩ = some (.int .i64 (SM.sv H p)) ∧ w'.cell? ⟨wo.heap.size, 0, none⟩ = some (.int .i64 a0) ∧ w'.cell? ⟨wo.heap.size, 1, none⟩ = some (.int .i64 a1) := fun w' hb =>
                  ⟨(hb.cell (p := ⟨g3, r * 2, none⟩) hgz).trans y0, (hb.cell (p := ⟨g3, r * 2 + 1, none⟩) hgz).trans y1, (hb.cell (p := ⟨g3, p * 2, none⟩) hgz).trans z0, (hb.cell (p := ⟨g3, p * 2 + 1, none⟩) hgz).trans z1, (hb.cell (p := ⟨wo.heap.size, 0, none⟩) hx9).trans x0, (hb.cell (p := ⟨wo.heap.size, 1, none⟩) hx9).trans x1⟩
                have KEEP := hidd hkp
                clear hkp hr hp0
                generalize SM.sv H p = e1 at *
                generalize SM.av H p = e0 at *
                generalize SM.sv H r = f1 at *
                generalize SM.av H r = f0 at *
                go_wp2_with fail
                go_cut [55] (fun s wx => s = .bool T ∧ OwnL sendV 2 wx w1.heap.size 44 (.slice (some ⟨g3, 0, none⟩) (p + 1) cap3) (H.take (p + 1)) ∧ Below w1.heap.size w1 wx ∧ LineBox wx wo.heap.size a0 a1)
                case first =>
                  go_region_held3 (fun w' => w'.cell? ⟨g3, r * 2, none⟩ = some (.int .i64 f0) ∧ w'.cell? ⟨g3, r * 2 + 1, none⟩ = some (.int .i64 f1) ∧ w'.cell? ⟨g3, p * 2, none⟩ = some (.int .i64 e0) ∧ w'.cell? ⟨g3, p * 2 + 1, none⟩ = some (.int .i64 e1) ∧ w'.cell? ⟨wo.heap.size, 0, none⟩ = some (.int .i64 a0) ∧ w'.cell? ⟨wo.heap.size, 1, none⟩ = some (.int .i64 a1))
                    ((first | exact KEEP.out _ cumC | exact KEEP.out _ cumB | exact KEEP.out _ cumA | exact KEEP.out _ (Below.refl _ _) | go_keep))
                    ((first
                      | (go_at_call_of 39 (Value.agg #[Value.int IntKind.i64 f0, Value.int IntKind.i64 f1]); refine (cb1.out _).mono ?_; rintro E wa ⟨rfl, ha⟩; have cumA : Below wc.heap.size wc wa := (by first | exact below_step cumB ha | exact below_step (Below.drew (Below.refl _ _)) ha | exact below_step (Below.refl _ _) ha))
                      | (go_at_call_of 39 (Value.agg #[Value.int IntKind.i64 e0, Value.int IntKind.i64 e1]); refine (cb2.out _).mono ?_; rintro E wb ⟨rfl, hb⟩; have cumB : Below wc.heap.size wc wb := (by first | exact below_step cumA hb | exact below_step (Below.drew (Below.refl _ _)) hb | exact below_step (Below.refl _ _) hb))
                      | (go_at_call 40; refine (cag.out _).mono ?_; rintro E wg ⟨rfl, hg⟩; have cumC : Below wc.heap.size wc wg := (by first | exact below_step cumB hg | exact below_step cumA hg))))
                  all_goals go_wp2_with fail
                  all_goals go_meet
                  all_goals exact ⟨rfl, HO5.out.below cumC, HB5.out.trans (cumC.mono HB5.out.size), HX5.out.step cumC⟩
                case rest =>
                  obtain ⟨rfl, hO6, hB6, hX6⟩ := hcut
                  have HO3 := hidd hO6
                  have HB3 := hidd hB6
                  obtain ⟨hx9, x0, x1⟩ := id hX6
                  have HX6 := hidd hX6
                  clear hO6 hB6 hX6 KEEP cb1 cb2 cag hT hp5 y0 y1 z0 z1
                  cases T
                  · have hk2 := HTT.out.2 rfl
                    have hK3 : CM.keep H (a0, a1) H.length = CM.keep H (a0, a1) p := HEQ.out.trans hk2
                    have HK3 := hidd hK3
                    have hO7 := HO3.out
                    have hO8 : OwnL sendV 2 wc w1.heap.size 44 (.slice (some ⟨g3, 0, none⟩) p cap3) (H.take p) := by
                      have h8 := OwnL.take (L := H.take (p + 1)) (g := g3) (cap := cap3) (by rw [CM.take_len (show p + 1 ≤ H.length by omega)]; exact hO7) (m := p) (by rw [CM.take_len (show p + 1 ≤ H.length by omega)]; omega)
                      rw [List.take_take, Nat.min_eq_left (by omega)] at h8
                      exact h8
                    have HO8 := hidd hO8
                    have hgi := HGI.out
                    clear hk2 hK3 hO7 hO8
                    go_wp2_with fail
                    go_roundg (gk - 1)
                    case measure => omega
                    case rel => exact ⟨p, by omega, by omega, by go_num, HO8.out, HK3, HB3.out, HX6.out⟩
                  · have hone := HTT.out.1 rfl
                    have HONE := hidd hone
                    clear hone
                    have HKe : CM.hull (S.take (q + 1)) = H.take (p + 1) ++ [(a0, a1)] := by rw [HKP.out, HEQ.out]; exact HONE.out
                    have HKE := hidd HKe
                    clear HKe
                    go_wp2_with (at_builtin; refine wpList_append_some (by rfl) (.tmp 60) (.tmp 62) _ (by rfl) w1.heap.size 44 i0 _ 2 16 Try.underlying25 hi hz0 hz1 hz2 rfl (by omega) _ _ _ (by rfl) (World.ownsRow.alloc HO3.out _) (some ⟨_, 0, none⟩) 1 1 [.int .i64 a0, .int .i64 a1] (by rfl) (by rfl) (fun _ => ⟨_, rfl, World.news_of_block (cs := #[.int .i64 a0, .int .i64 a1]) (t := 44) (fr := (0, 0)) (heap_alloc_new _ _)⟩) (by simp [Value.oneCell']) (by simp only [maxLen]; omega) (by omega) (by have := HB3.out.size; first | omega | (simp; omega)) ?_; intro v1 wa hown1 hgrow1 hat1)
                    have hB4 : Below w1.heap.size w1 wa := Below.grown (below_new HB3.out _) hgrow1 (by have := HB3.out.size; first | omega | (simp; omega)) (fun k hk => (OwnL.lt HO3.out k hk).1)
                    have hO4 : OwnL sendV 2 wa w1.heap.size 44 v1 (CM.hull (S.take (q + 1))) := by rw [HKE.out]; exact OwnL.snoc (f := sendV) (L := H.take (p + 1)) (x := (a0, a1)) hown1 rfl rfl
                    have hgk := HG.out
                    have hB4' := hidd hB4
                    have hO4' := hidd hO4
                    clear hB4 hO4 hown1 hgrow1 hat1
                    go_wp2_with fail
                    go_roundg (gko - 1)
                    case measure => omega
                    case rel => exact ⟨q + 1, by omega, by omega, by go_num, hO4'.out, hB4'.out⟩
    · have hq : q = S.length := by omega
      subst hq
      go_wp2_with fail
      first | rw [Exit.noGoto_ret] | skip
      go_ret
      exact ⟨_, rfl, hO.base (by have := HB.out.size; omega), HB.out.trans (hB2.mono HB.out.size)⟩
end Go.Proofs.Ytpgaklfgbioocaa
