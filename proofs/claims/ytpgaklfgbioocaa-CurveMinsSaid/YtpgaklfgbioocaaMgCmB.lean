/- Texts that the claim hangs on, in one. -/
import Derived.Test.YtpgaklfgbioocaaMgCmA
import Derived.Deep.LoopGhost
import Derived.Deep.Quiet
import Derived.KernelRfl
import Derived.Test.YtpgaklfgbioocaaProg
namespace Go.Proofs.Ytpgaklfgbioocaa
set_option linter.unusedVariables false
open Go.RowKit Go.Proofs.Ytpgaklfgbioocaa.RowK

theorem row_take (f : Int × Int → List Value) (hf : ∀ x, (f x).length = 2) (L : List (Int × Int)) (m : Nat) : (rowOf f L).take (m * 2) = rowOf f (L.take m) := by
  induction L generalizing m with
  | nil => simp [rowOf]
  | cons x L ih =>
    cases m with
    | zero => simp [rowOf]
    | succ m =>
      have e : (m + 1) * 2 = (f x).length + m * 2 := by rw [hf]; omega
      simp only [rowOf, List.flatMap_cons, List.take_succ_cons] at *
      rw [e, List.take_length_add_append, ih m]
theorem OwnL.take {w : World} {base g cap : Nat} {e : TypeId} {L : List (Int × Int)} (h : OwnL sendV 2 w base e (.slice (some ⟨g, 0, none⟩) L.length cap) L) {m : Nat} (hm : m ≤ L.length) : OwnL sendV 2 w base e (.slice (some ⟨g, 0, none⟩) m cap) (L.take m) := by
  have hl : (L.take m).length = m := CM.take_len hm
  obtain ⟨h0, h1⟩ := h
  rcases h1 with ⟨hv, _⟩ | ⟨g', cap', cur, hv, hb, hh, hn, hc1, hc, ht⟩
  · cases hv
  cases hv
  refine ⟨by rw [row_len sendV_len], .inr ⟨g, cap, cur, by rw [hl], hb, hh, by omega, hc1, hc, ?_⟩⟩
  rw [hl, ← row_take sendV sendV_len, ← ht, List.take_take, Nat.min_eq_left (by omega)]
theorem add_zero_off (g j : Nat) : (⟨g, 0, none⟩ : Addr).add j = ⟨g, j, none⟩ := by
  unfold Addr.add
  by_cases h : j = 0
  · subst h; simp
  · simp [h]
theorem OwnL.form {w : World} {base : Nat} {e : TypeId} {v : Value} {L : List (Int × Int)} (h : OwnL sendV 2 w base e v L) (h0 : 0 < L.length) : ∃ g cap, v = .slice (some ⟨g, 0, none⟩) L.length cap ∧ (base ≤ g ∧ g < w.heap.size) ∧ (L.length ≤ cap ∧ cap ≤ maxLen) ∧ ∀ i, i < L.length → w.cell? ⟨g, i * 2, none⟩ = some (.int .i64 (SM.av L i)) ∧ w.cell? ⟨g, i * 2 + 1, none⟩ = some (.int .i64 (SM.sv L i)) := by
  have h' := h
  obtain ⟨_, h1⟩ := h
  rcases h1 with ⟨hv, hn⟩ | ⟨g', cap', cur, rfl, hb, hh, hn, hc1, hc, ht⟩
  · omega
  refine ⟨g', cap', rfl, ⟨hb, (Array.getElem?_eq_some_iff.1 hh).1⟩, ⟨hn, hc1⟩, fun i hi => ?_⟩
  obtain ⟨A, c, e1, _, _, hl⟩ := h'.lie sendV_len
  injection e1 with e1
  subst e1
  obtain ⟨ad, e2, _, x0, x1⟩ := hl.send i hi
  injection e2 with e2
  subst e2
  rw [(av_at hi).1] at x0
  rw [(av_at hi).2] at x1
  rw [add_zero_off] at x0 x1
  exact ⟨x0, x1⟩
/-- may all of some lines be. -/
def okL (L : List (Int × Int)) : Prop := ∀ x ∈ L, 0 ≤ x.1 ∧ x.1 ≤ 2000000000 ∧ 0 ≤ x.2 ∧ x.2 ≤ 2000000000
theorem okL.at_ {L : List (Int × Int)} (h : okL L) {i : Nat} (hi : i < L.length) : 0 ≤ SM.av L i ∧ SM.av L i ≤ 2000000000 ∧ 0 ≤ SM.sv L i ∧ SM.sv L i ≤ 2000000000 := by
  have := h L[i] (List.getElem_mem hi)
  rw [(av_at hi).1, (av_at hi).2] at this
  exact this
theorem hull_ok {S : List (Int × Int)} (h : okL S) (q : Nat) : okL (CM.hull (S.take q)) := fun x hx => h x (List.mem_of_mem_take (CM.hull_mem _ x hx))
theorem hull_next {S : List (Int × Int)} {q : Nat} (h : q < S.length) : CM.hull (S.take (q + 1)) = CM.keep (CM.hull (S.take q)) (SM.av S q, SM.sv S q) (CM.hull (S.take q)).length := by
  rw [take_one h, CM.hull_snoc]
theorem hull_short (S : List (Int × Int)) (q : Nat) : (CM.hull (S.take q)).length ≤ q := Nat.le_trans (CM.hull_len _) (by simp; omega)
set_option maxRecDepth 100000 in
set_option maxHeartbeats 4000000 in
theorem lowest_any (A : Option Addr) (k : Nat) (cs : List Crv) (hlen : cs.length ≤ 1000000) (hlen2 : ∀ c ∈ cs, c.2.length ≤ 1000000) (hall : (allLines cs).length ≤ 1000000) (hne : allLines cs ≠ []) (hok : okL (allLines cs)) (w : World) (hC : Curves w w.heap.size A cs) :
    Calls Try.prog 23 #[.slice A cs.length k] w fun e w' => ∃ v, e = .returned v ∧ OwnL sendV 2 w' w.heap.size 44 v (CM.low (allLines cs)) ∧ Below w.heap.size w w' := by
  have hb0 := below_new (Below.refl w.heap.size w) (.cells #[.slice A cs.length k] 22)
  have cj := hidd (fun W => callsIn_wide.1 (joined_in Fence.wide 6 trivial rfl A cs.length k W))
  have co := hidd (inOrder_any sortsLines w.heap.size A k cs hlen hlen2 hall hne (w.alloc (.cells #[.slice A cs.length k] 22)) (by simp) (by simp [go_sem]) ((hC.keep hb0).more (by simp)))
  obtain ⟨i0, hi, hz0, hz1, hz2⟩ := info_parts lineInfo
  have hSl : (CM.sortL (allLines cs)).length = (allLines cs).length := (CM.sortL_perm _).length_eq
  have hSok : okL (CM.sortL (allLines cs)) := fun x hx => hok x ((CM.sortL_perm _).mem_iff.1 hx)
  have hlow : CM.low (allLines cs) = CM.hull ((CM.sortL (allLines cs)).take (CM.sortL (allLines cs)).length) := by rw [List.take_length]; rfl
  rw [hlow]
  rw [← hSl] at co hall
  have hS1 : 0 < (CM.sortL (allLines cs)).length := by rw [hSl]; exact List.length_pos_iff.2 hne
  clear hC hok hSl hlow hne
  generalize CM.sortL (allLines cs) = S at *
  have HSok := hidd hSok
  have HB0 := hidd hb0
  clear hSok hb0
  go_enter Try.func23, Try.ntmps23
  go_wp2_with fail
  go_step3
  go_wp2_with fail
  refine (cj.out _).mono ?_
  rintro e w1 ⟨rfl, rfl⟩
  go_wp2_with fail
  refine co.out.mono ?_
  rintro e w1 ⟨g, cap, rfl, hO, hB⟩
  have HS := hidd hO
  have HB := hidd (HB0.out.trans (hB.mono HB0.out.size))
  clear hO hB
  go_wp2_with fail
  go_step3
  go_wp2_with fail
  obtain ⟨hg0, hg1⟩ := HS.out.lt g rfl
  obtain ⟨g2, cap2, e2, _, _, hcells⟩ := HS.out.form hS1
  obtain ⟨rfl, rfl⟩ : g = g2 ∧ cap = cap2 := by cases e2; exact ⟨rfl, rfl⟩
  have HC := hidd hcells
  clear hcells e2
  go_loopg [4, 13] (S.length + 2) (fun k s4 s13 wr => ∃ q : Nat, q ≤ S.length ∧ q + k = S.length + 2 ∧ s13 = .int .i64 (q : Int) ∧ OwnL sendV 2 wr w1.heap.size 44 s4 (CM.hull (S.take q)) ∧ Below w1.heap.size w1 wr)
  case atStart => exact ⟨0, by omega, by omega, rfl, OwnL.nil _ _ _, Below.refl _ _⟩
  case round =>
    obtain ⟨q, hq, hg, rfl, hO, hB2⟩ := hrel
    have HG := hidd hg
    clear hg
    by_cases hin : q < S.length
    · have hin2 : (q : Int) < (S.length : Int) := by omega
      have hq0 : (0 : Int) ≤ (q : Int) := by omega
      obtain ⟨x0, x1⟩ := HC.out q hin
      have y0 := (hB2.cell (p := ⟨g, q * 2, none⟩) hg1).trans x0
      have y1 := (hB2.cell (p := ⟨g, q * 2 + 1, none⟩) hg1).trans x1
      have HKP := hidd (hull_next hin)
      have hHs := hull_short S q
      have HOK := hidd (hull_ok HSok.out q)
      obtain ⟨o0, o1, o2, o3⟩ := HSok.out.at_ hin
      clear x0 x1
      generalize CM.hull (S.take q) = H at *
      generalize SM.av S q = a0 at *
      generalize SM.sv S q = a1 at *
      have HO := hidd hO
      have HB2 := hidd hB2
      obtain ⟨A4, c4, rfl, hc40, hc41, _⟩ := hO.lie sendV_len
      clear hO hB2
      go_wp2_with fail
      obtain ⟨gko, rfl⟩ : ∃ g', g' = gk := ⟨gk, rfl⟩
      obtain ⟨wo, rfl⟩ : ∃ wo : World, wo = wr := ⟨_, rfl⟩
      have hbx := LineBox.new wo 44 a0 a1
      have HBX := hidd hbx
      clear hbx
      go_loopg [4, 7] (H.length + 2) (fun k s4 s7 wx => ∃ m : Nat, m ≤ H.length ∧ k = m + 2 ∧ s7 = .int .i64 (m : Int) ∧ OwnL sendV 2 wx w1.heap.size 44 s4 (H.take m) ∧ Hid (CM.keep H (a0, a1) H.length = CM.keep H (a0, a1) m) ∧ Below w1.heap.size w1 wx ∧ LineBox wx wo.heap.size a0 a1)
      case atStart => exact ⟨H.length, by omega, by omega, rfl, by rw [List.take_length]; exact HO.out.alloc _, hidd rfl, below_new HB2.out _, HBX.out⟩
      case round =>
        obtain ⟨m, hm, hg, rfl, hO3, HEQ, hB3, hX3⟩ := hrel
        have HGI := hidd hg
        have HO3 := hidd hO3
        have HB3 := hidd hB3
        obtain ⟨hx9, x0, x1⟩ := id hX3
        have HX3 := hidd hX3
        have hml := CM.take_len hm
        have hml2 : (H.take m).length ≤ 1000000 := by omega
        clear hg hX3
        rcases Nat.eq_zero_or_pos m with rfl | hm0
        · clear hO3 hB3 hml
          have HKe : CM.hull (S.take (q + 1)) = H.take (0) ++ [(a0, a1)] := by rw [HKP.out, HEQ.out]; rfl
          have HKE := hidd HKe
          clear HKe
          go_wp2_with (at_builtin; refine wpList_append_some (by rfl) (.tmp 60) (.tmp 62) _ (by rfl) w1.heap.size 44 i0 _ 2 16 Try.underlying25 hi hz0 hz1 hz2 rfl (by omega) _ _ _ (by rfl) (World.ownsRow.alloc HO3.out _) (some ⟨_, 0, none⟩) 1 1 [.int .i64 a0, .int .i64 a1] (by rfl) (by rfl) (fun _ => ⟨_, rfl, World.news_of_block (cs := #[.int .i64 a0, .int .i64 a1]) (t := 44) (fr := (0, 0)) (heap_alloc_new _ _)⟩) (by simp [Value.oneCell']) (by simp only [maxLen]; omega) (by omega) (by have := HB3.out.size; first | omega | (simp; omega)) ?_; intro v1 wa hown1 hgrow1 hat1)
          have hB4 : Below w1.heap.size w1 wa := Below.grown (below_new HB3.out _) hgrow1 (by have := HB3.out.size; first | omega | (simp; omega)) (fun k hk => (OwnL.lt HO3.out k hk).1)
          have hO4 : OwnL sendV 2 wa w1.heap.size 44 v1 (CM.hull (S.take (q + 1))) := by rw [HKE.out]; exact OwnL.snoc (f := sendV) (L := H.take (0)) (x := (a0, a1)) hown1 rfl rfl
          have hgk := HG.out
          have hB4' := hidd hB4
          have hO4' := hidd hO4
          clear hB4 hO4 hown1 hgrow1 hat1
          go_wp2_with fail
          go_roundg (gko - 1)
          case measure => omega
          case rel => exact ⟨q + 1, by omega, by omega, by go_num, hO4'.out, hB4'.out⟩
        · obtain ⟨p, rfl⟩ : ∃ p, m = p + 1 := ⟨m - 1, by omega⟩
          obtain ⟨g3, cap3, rfl, ⟨hg30, hg31⟩, ⟨hc30, hc31⟩, hcl⟩ := hO3.form (by omega)
          rw [hml] at hc30 hcl HO3 ⊢
          obtain ⟨z0, z1⟩ := hcl p (by omega)
          rw [(CM.av_take (L := H) (show p < p + 1 by omega)).1] at z0
          rw [(CM.av_take (L := H) (show p < p + 1 by omega)).2] at z1
          have HCL := hidd hcl
          have hp1 : IntKind.i64.wrap (((p + 1 : Nat) : Int) - 1) = (p : Int) := by rw [IntWalk.i64_in _ (by omega)]; omega
          have hp2 : (0 : Int) ≤ (p : Int) := by omega
          have hp3 : (p : Int) < ((p + 1 : Nat) : Int) := by omega
          have hp4 : (0 : Int) < ((p + 1 : Nat) : Int) := by omega
          have hkeep : CM.keep H (a0, a1) (p + 1) = if SM.sv H p ≤ a1 then H.take (p + 1) else if p = 0 ∨ (SM.av H p - SM.av H (p - 1)) * (SM.sv H p - a1) < (a0 - SM.av H p) * (SM.sv H (p - 1) - SM.sv H p) then H.take (p + 1) ++ [(a0, a1)] else CM.keep H (a0, a1) p := rfl
          have HKK := hidd hkeep
          obtain ⟨b0, b1, b2, b3⟩ := HOK.out.at_ (i := p) (by omega)
          clear hkeep hcl hO3 hB3 hml hm0
          by_cases hsk : SM.sv H p ≤ a1
          · have hrel1 : CM.hull (S.take (q + 1)) = H.take (p + 1) := by rw [HKP.out, HEQ.out, HKK.out, if_pos hsk]
            have HR1 := hidd hrel1
            clear hrel1
            generalize SM.sv H p = e1 at *
            generalize SM.av H p = e0 at *
            go_wp2_with fail
            go_quiet (fail)
            go_wp2_with fail
            have hgk := HG.out
            go_roundg (gko - 1)
            case measure => omega
            case rel => exact ⟨q + 1, by omega, by omega, by go_num, by rw [HR1.out]; exact HO3.out, HB3.out.trans (by (repeat' (first | (with_reducible exact Below.refl _ _) | (with_reducible assumption) | (with_reducible apply Below.setCell) | (with_reducible apply Below.alloc) | (with_reducible apply Below.drew) | (with_reducible apply below_drewN) | (with_reducible refine Below.trans ?_ (Below.mono (by assumption) ?_)) | omega | (simp; done) | (simp; omega))))⟩
          · have hcut0 := HB3.out
            have hlt1 : a1 < SM.sv H p := by omega
            go_wp2_with fail
            go_cut [31] (fun s wx => s = .bool false ∧ OwnL sendV 2 wx w1.heap.size 44 (.slice (some ⟨g3, 0, none⟩) (p + 1) cap3) (H.take (p + 1)) ∧ Below w1.heap.size w1 wx ∧ LineBox wx wo.heap.size a0 a1)
            case first =>
              generalize SM.sv H p = e1 at *
              generalize SM.av H p = e0 at *
              go_quiet (fail)
              go_wp2_with fail
              go_meet
              exact ⟨by simp; omega, HO3.out, HB3.out.trans (by (repeat' (first | (with_reducible exact Below.refl _ _) | (with_reducible assumption) | (with_reducible apply Below.setCell) | (with_reducible apply Below.alloc) | (with_reducible apply Below.drew) | (with_reducible apply below_drewN) | (with_reducible refine Below.trans ?_ (Below.mono (by assumption) ?_)) | omega | (simp; done) | (simp; omega)))), HX3.out.step (by (repeat' (first | (with_reducible exact Below.refl _ _) | (with_reducible assumption) | (with_reducible apply Below.setCell) | (with_reducible apply Below.alloc) | (with_reducible apply Below.drew) | (with_reducible apply below_drewN) | (with_reducible refine Below.trans ?_ (Below.mono (by assumption) ?_)) | omega | (simp; done) | (simp; omega))))⟩
            case rest =>
              obtain ⟨rfl, hO5, hB5, hX5⟩ := hcut
              have HO5 := hidd hO5
              have HB5 := hidd hB5
              have HX5 := hidd hX5
              clear HO3 HB3 HX3 hcut0 hO5 hB5 hX5 x0 x1 z0 z1 HCL
              by_cases hp0 : p = 0
              · subst hp0
                have hone : CM.keep H (a0, a1) (0 + 1) = H.take (0 + 1) ++ [(a0, a1)] := by rw [HKK.out, if_neg (by omega), if_pos (.inl rfl)]
                have HONE := hidd hone
                clear hone
                go_wp2_with fail
                go_cut [55] (fun s wx => s = .bool true ∧ OwnL sendV 2 wx w1.heap.size 44 (.slice (some ⟨g3, 0, none⟩) (0 + 1) cap3) (H.take (0 + 1)) ∧ Below w1.heap.size w1 wx ∧ LineBox wx wo.heap.size a0 a1)
                case first =>
                  go_quiet (fail)
                  go_wp2_with fail
                  go_meet
                  exact ⟨rfl, HO5.out, HB5.out.trans (by (repeat' (first | (with_reducible exact Below.refl _ _) | (with_reducible assumption) | (with_reducible apply Below.setCell) | (with_reducible apply Below.alloc) | (with_reducible apply Below.drew) | (with_reducible apply below_drewN) | (with_reducible refine Below.trans ?_ (Below.mono (by assumption) ?_)) | omega | (simp; done) | (simp; omega)))), HX5.out.step (by (repeat' (first | (with_reducible exact Below.refl _ _) | (with_reducible assumption) | (with_reducible apply Below.setCell) | (with_reducible apply Below.alloc) | (with_reducible apply Below.drew) | (with_reducible apply below_drewN) | (with_reducible refine Below.trans ?_ (Below.mono (by assumption) ?_)) | omega | (simp; done) | (simp; omega))))⟩
                case rest =>
                  obtain ⟨rfl, hO6, hB6, hX6⟩ := hcut
                  have HO3 := hidd hO6
                  have HB3 := hidd hB6
                  obtain ⟨hx9, x0, x1⟩ := id hX6
                  clear hO6 hB6 hX6
                  have HKe : CM.hull (S.take (q + 1)) = H.take (0 + 1) ++ [(a0, a1)] := by rw [HKP.out, HEQ.out]; exact HONE.out
                  have HKE := hidd HKe
                  clear HKe
                  go_wp2_with (at_builtin; refine wpList_append_some (by rfl) (.tmp 60) (.tmp 62) _ (by rfl) w1.heap.size 44 i0 _ 2 16 Try.underlying25 hi hz0 hz1 hz2 rfl (by omega) _ _ _ (by rfl) (World.ownsRow.alloc HO3.out _) (some ⟨_, 0, none⟩) 1 1 [.int .i64 a0, .int .i64 a1] (by rfl) (by rfl) (fun _ => ⟨_, rfl, World.news_of_block (cs := #[.int .i64 a0, .int .i64 a1]) (t := 44) (fr := (0, 0)) (heap_alloc_new _ _)⟩) (by simp [Value.oneCell']) (by simp only [maxLen]; omega) (by omega) (by have := HB3.out.size; first | omega | (simp; omega)) ?_; intro v1 wa hown1 hgrow1 hat1)
                  have hB4 : Below w1.heap.size w1 wa := Below.grown (below_new HB3.out _) hgrow1 (by have := HB3.out.size; first | omega | (simp; omega)) (fun k hk => (OwnL.lt HO3.out k hk).1)
                  have hO4 : OwnL sendV 2 wa w1.heap.size 44 v1 (CM.hull (S.take (q + 1))) := by rw [HKE.out]; exact OwnL.snoc (f := sendV) (L := H.take (0 + 1)) (x := (a0, a1)) hown1 rfl rfl
                  have hgk := HG.out
                  have hB4' := hidd hB4
                  have hO4' := hidd hO4
                  clear hB4 hO4 hown1 hgrow1 hat1
                  go_wp2_with fail
                  go_roundg (gko - 1)
                  case measure => omega
                  case rel => exact ⟨q + 1, by omega, by omega, by go_num, hO4'.out, hB4'.out⟩
              · obtain ⟨r, hr⟩ : ∃ r, p = r + 1 := ⟨p - 1, by omega⟩
                have hcl := (HO5.out.form (by rw [CM.take_len (by omega)]; omega))
                rw [CM.take_len (show p + 1 ≤ H.length by omega)] at hcl
                obtain ⟨g4, cap4, e4, ⟨hgb, hgz⟩, _, hcl⟩ := hcl
                obtain ⟨rfl, rfl⟩ : g3 = g4 ∧ cap3 = cap4 := by cases e4; exact ⟨rfl, rfl⟩
                obtain ⟨z0, z1⟩ := hcl p (by omega)
                obtain ⟨y0, y1⟩ := hcl r (by omega)
                rw [(CM.av_take (L := H) (show p < p + 1 by omega)).1] at z0
                rw [(CM.av_take (L := H) (show p < p + 1 by omega)).2] at z1
                rw [(CM.av_take (L := H) (show r < p + 1 by omega)).1] at y0
                rw [(CM.av_take (L := H) (show r < p + 1 by omega)).2] at y1
                obtain ⟨d0, d1, d2, d3⟩ := HOK.out.at_ (i := r) (by omega)
                have hp5 : IntKind.i64.wrap (((p + 1 : Nat) : Int) - 2) = (r : Int) := by rw [IntWalk.i64_in _ (by omega)]; omega
                have hp6 : (0 : Int) ≤ (r : Int) := by omega
                have hp7 : (r : Int) < ((p + 1 : Nat) : Int) := by omega
                have hp8 : ((p : Int) + 1 == 1) = false := beq_eq_false_iff_ne.2 (by omega)
                have hp9 : ((p : Int) == 0) = false := beq_eq_false_iff_ne.2 (by omega)
                have hp10 : IntKind.i64.wrap ((p : Int) + 1 - 2) = (r : Int) := by rw [IntWalk.i64_in _ (by omega)]; omega
                have hp11 : IntKind.i64.wrap ((p : Int) + 1 - 1) = (p : Int) := by rw [IntWalk.i64_in _ (by omega)]; omega
                have hp14 : IntKind.i64.wrap (p : Int) = (p : Int) := IntWalk.i64_in _ (by omega)
                have hp12 : (r : Int) < (p : Int) + 1 := by omega
                have hp13 : (p : Int) < (p : Int) + 1 := by omega
                have hkk : (¬ (SM.av H p - SM.av H r) * (SM.sv H p - a1) < (a0 - SM.av H p) * (SM.sv H r - SM.sv H p) → CM.keep H (a0, a1) (p + 1) = CM.keep H (a0, a1) p) ∧ ((SM.av H p - SM.av H r) * (SM.sv H p - a1) < (a0 - SM.av H p) * (SM.sv H r - SM.sv H p) → CM.keep H (a0, a1) (p + 1) = H.take (p + 1) ++ [(a0, a1)]) := by
                  have e5 : p - 1 = r := by omega
                  have h6 := HKK.out
                  rw [e5, if_neg (by omega)] at h6
                  constructor
                  · intro h; rw [h6, if_neg (fun h' => h'.elim hp0 h)]
                  · intro h; rw [h6, if_pos (.inr h)]
                have HKK2 := hidd hkk
                have cb1 := hidd (fun W => bendOf_any (SM.av H r) (SM.sv H r) (SM.av H p) (SM.sv H p) d0 d1 d2 d3 b0 b1 b2 b3 W)
                have cb2 := hidd (fun W => bendOf_any (SM.av H p) (SM.sv H p) a0 a1 b0 b1 b2 b3 o0 o1 o2 o3 W)
                have cag := hidd (fun W => against_any (SM.av H p - SM.av H r) (SM.sv H r - SM.sv H p) (a0 - SM.av H p) (SM.sv H p - a1) (by omega) (by omega) W)
                obtain ⟨hx9, x0, x1⟩ := id HX5.out
                obtain ⟨V, hV⟩ : ∃ V, cmpV ((SM.av H p - SM.av H r) * (SM.sv H p - a1)) ((a0 - SM.av H p) * (SM.sv H r - SM.sv H p)) = V := ⟨_, rfl⟩
                rw [hV] at cag
                have hVs : V < 0 ↔ (SM.av H p - SM.av H r) * (SM.sv H p - a1) < (a0 - SM.av H p) * (SM.sv H r - SM.sv H p) := by
                  rw [← hV]
                  generalize (SM.av H p - SM.av H r) * (SM.sv H p - a1) = X
                  generalize (a0 - SM.av H p) * (SM.sv H r - SM.sv H p) = Y
                  unfold cmpV
                  by_cases h1 : X < Y
                  · rw [if_pos h1]; omega
                  · rw [if_neg h1]; split <;> omega
                obtain ⟨T, hT⟩ : ∃ T, decide (V < 0) = T := ⟨_, rfl⟩
                have hTt : (T = true → CM.keep H (a0, a1) (p + 1) = H.take (p + 1) ++ [(a0, a1)]) ∧ (T = false → CM.keep H (a0, a1) (p + 1) = CM.keep H (a0, a1) p) := by
                  constructor
                  · intro h; exact HKK2.out.2 (hVs.1 (by rw [h] at hT; exact of_decide_eq_true hT))
                  · intro h; exact HKK2.out.1 (fun g => by have := hVs.2 g; rw [h] at hT; exact absurd this (of_decide_eq_false hT))
                have HTT := hidd hTt
                clear hTt hVs hV HKK2 HKK hcl e4 hlt1 hp1
                have hp1 : IntKind.i64.wrap (((p + 1 : Nat) : Int) - 1) = (p : Int) := by rw [IntWalk.i64_in _ (by omega)]; omega
                have hkp : ∀ w', Below wc.heap.size wc w' → w'.cell? ⟨g3, r * 2, none⟩ = some (.int .i64 (SM.av H r)) ∧ w'.cell? ⟨g3, r * 2 + 1, none⟩ = some (.int .i64 (SM.sv H r)) ∧ w'.cell? ⟨g3, p * 2, none⟩ = some (.int .i64 (SM.av H p)) ∧ w'.cell? ⟨g3, p * 2 + 1, none⟩ = some (.int .i64 (SM.sv H p)) ∧ w'.cell? ⟨wo.heap.size, 0, none⟩ = some (.int .i64 a0) ∧ w'.cell? ⟨wo.heap.size, 1, none⟩ = some (.int .i64 a1) := fun w' hb =>
                  ⟨(hb.cell (p := ⟨g3, r * 2, none⟩) hgz).trans y0, (hb.cell (p := ⟨g3, r * 2 + 1, none⟩) hgz).trans y1, (hb.cell (p := ⟨g3, p * 2, none⟩) hgz).trans z0, (hb.cell (p := ⟨g3, p * 2 + 1, none⟩) hgz).trans z1, (hb.cell (p := ⟨wo.heap.size, 0, none⟩) hx9).trans x0, (hb.cell (p := ⟨wo.heap.size, 1, none⟩) hx9).trans x1⟩
                have KEEP := hidd hkp
                clear hkp hr hp0
                generalize SM.sv H p = e1 at *
                generalize SM.av H p = e0 at *
                generalize SM.sv H r = f1 at *
                generalize SM.av H r = f0 at *
                go_wp2_with fail
                go_cut [55] (fun s wx => s = .bool T ∧ OwnL sendV 2 wx w1.heap.size 44 (.slice (some ⟨g3, 0, none⟩) (p + 1) cap3) (H.take (p + 1)) ∧ Below w1.heap.size w1 wx ∧ LineBox wx wo.heap.size a0 a1)
                case first =>
                  go_region_held3 (fun w' => w'.cell? ⟨g3, r * 2, none⟩ = some (.int .i64 f0) ∧ w'.cell? ⟨g3, r * 2 + 1, none⟩ = some (.int .i64 f1) ∧ w'.cell? ⟨g3, p * 2, none⟩ = some (.int .i64 e0) ∧ w'.cell? ⟨g3, p * 2 + 1, none⟩ = some (.int .i64 e1) ∧ w'.cell? ⟨wo.heap.size, 0, none⟩ = some (.int .i64 a0) ∧ w'.cell? ⟨wo.heap.size, 1, none⟩ = some (.int .i64 a1))
                    ((first | exact KEEP.out _ cumC | exact KEEP.out _ cumB | exact KEEP.out _ cumA | exact KEEP.out _ (Below.refl _ _) | go_keep))
                    ((first
                      | (go_at_call_of 39 (Value.agg #[Value.int IntKind.i64 f0, Value.int IntKind.i64 f1]); refine (cb1.out _).mono ?_; rintro E wa ⟨rfl, ha⟩; have cumA : Below wc.heap.size wc wa := (by first | exact below_step cumB ha | exact below_step (Below.drew (Below.refl _ _)) ha | exact below_step (Below.refl _ _) ha))
                      | (go_at_call_of 39 (Value.agg #[Value.int IntKind.i64 e0, Value.int IntKind.i64 e1]); refine (cb2.out _).mono ?_; rintro E wb ⟨rfl, hb⟩; have cumB : Below wc.heap.size wc wb := (by first | exact below_step cumA hb | exact below_step (Below.drew (Below.refl _ _)) hb | exact below_step (Below.refl _ _) hb))
                      | (go_at_call 40; refine (cag.out _).mono ?_; rintro E wg ⟨rfl, hg⟩; have cumC : Below wc.heap.size wc wg := (by first | exact below_step cumB hg | exact below_step cumA hg))))
                  all_goals go_wp2_with fail
                  all_goals go_meet
                  all_goals exact ⟨rfl, HO5.out.below cumC, HB5.out.trans (cumC.mono HB5.out.size), HX5.out.step cumC⟩
                case rest =>
                  obtain ⟨rfl, hO6, hB6, hX6⟩ := hcut
                  have HO3 := hidd hO6
                  have HB3 := hidd hB6
                  obtain ⟨hx9, x0, x1⟩ := id hX6
                  have HX6 := hidd hX6
                  clear hO6 hB6 hX6 KEEP cb1 cb2 cag hT hp5 y0 y1 z0 z1
                  cases T
                  · have hk2 := HTT.out.2 rfl
                    have hK3 : CM.keep H (a0, a1) H.length = CM.keep H (a0, a1) p := HEQ.out.trans hk2
                    have HK3 := hidd hK3
                    have hO7 := HO3.out
                    have hO8 : OwnL sendV 2 wc w1.heap.size 44 (.slice (some ⟨g3, 0, none⟩) p cap3) (H.take p) := by
                      have h8 := OwnL.take (L := H.take (p + 1)) (g := g3) (cap := cap3) (by rw [CM.take_len (show p + 1 ≤ H.length by omega)]; exact hO7) (m := p) (by rw [CM.take_len (show p + 1 ≤ H.length by omega)]; omega)
                      rw [List.take_take, Nat.min_eq_left (by omega)] at h8
                      exact h8
                    have HO8 := hidd hO8
                    have hgi := HGI.out
                    clear hk2 hK3 hO7 hO8
                    go_wp2_with fail
                    go_roundg (gk - 1)
                    case measure => omega
                    case rel => exact ⟨p, by omega, by omega, by go_num, HO8.out, HK3, HB3.out, HX6.out⟩
                  · have hone := HTT.out.1 rfl
                    have HONE := hidd hone
                    clear hone
                    have HKe : CM.hull (S.take (q + 1)) = H.take (p + 1) ++ [(a0, a1)] := by rw [HKP.out, HEQ.out]; exact HONE.out
                    have HKE := hidd HKe
                    clear HKe
                    go_wp2_with (at_builtin; refine wpList_append_some (by rfl) (.tmp 60) (.tmp 62) _ (by rfl) w1.heap.size 44 i0 _ 2 16 Try.underlying25 hi hz0 hz1 hz2 rfl (by omega) _ _ _ (by rfl) (World.ownsRow.alloc HO3.out _) (some ⟨_, 0, none⟩) 1 1 [.int .i64 a0, .int .i64 a1] (by rfl) (by rfl) (fun _ => ⟨_, rfl, World.news_of_block (cs := #[.int .i64 a0, .int .i64 a1]) (t := 44) (fr := (0, 0)) (heap_alloc_new _ _)⟩) (by simp [Value.oneCell']) (by simp only [maxLen]; omega) (by omega) (by have := HB3.out.size; first | omega | (simp; omega)) ?_; intro v1 wa hown1 hgrow1 hat1)
                    have hB4 : Below w1.heap.size w1 wa := Below.grown (below_new HB3.out _) hgrow1 (by have := HB3.out.size; first | omega | (simp; omega)) (fun k hk => (OwnL.lt HO3.out k hk).1)
                    have hO4 : OwnL sendV 2 wa w1.heap.size 44 v1 (CM.hull (S.take (q + 1))) := by rw [HKE.out]; exact OwnL.snoc (f := sendV) (L := H.take (p + 1)) (x := (a0, a1)) hown1 rfl rfl
                    have hgk := HG.out
                    have hB4' := hidd hB4
                    have hO4' := hidd hO4
                    clear hB4 hO4 hown1 hgrow1 hat1
                    go_wp2_with fail
                    go_roundg (gko - 1)
                    case measure => omega
                    case rel => exact ⟨q + 1, by omega, by omega, by go_num, hO4'.out, hB4'.out⟩
    · have hq : q = S.length := by omega
      subst hq
      go_wp2_with fail
      first | rw [Exit.noGoto_ret] | skip
      go_ret
      exact ⟨_, rfl, hO.base (by have := HB.out.size; omega), HB.out.trans (hB2.mono HB.out.size)⟩
end Go.Proofs.Ytpgaklfgbioocaa

namespace Go.Proofs.Ytpgaklfgbioocaa
set_option linter.unusedVariables false
open Go.RowKit Go.Proofs.Ytpgaklfgbioocaa.RowK

def IdxEnd (L : List (Int × Int)) (w : World) (e : Ending) (w' : World) : Prop := ∃ n : Int, e = .returned (.int .i64 n) ∧ (-1 ≤ n ∧ n ≤ 1000000) ∧ (0 ≤ n ↔ ¬ MayAll L) ∧ Below w.heap.size w w'
theorem idxEnd_of {L : List (Int × Int)} {w : World} (n : Int) (w' : World) (h1 : -1 ≤ n) (h2 : n ≤ 1000000) (h3 : 0 ≤ n ↔ ¬ MayAll L) (hb : Below w.heap.size w w') : IdxEnd L w (.returned (.int .i64 n)) w' := ⟨n, rfl, ⟨h1, h2⟩, h3, hb⟩

set_option maxHeartbeats 2000000 in
theorem idxL_any (A : Option Addr) (L : List (Int × Int)) (c : Nat) (hL : L.length ≤ 1000000) (w : World) (hA : Lie sendV 2 w w.heap.size A L) :
    Calls Try.prog 46 #[.slice A L.length c, .func (.func 30) #[] #[]] w (IdxEnd L w) := by
  have HA := hidd hA
  have C := hidd (fun a b W => isNoLine_any a b W)
  obtain ⟨P, hP⟩ : ∃ P : Prop, MayAll L = P := ⟨_, rfl⟩
  have HP := hidd hP
  have HID := hidd (idxEnd_of (L := L) (w := w))
  clear hA hP
  go_enter Try.func46, Try.ntmps46
  go_wp2_with fail
  go_loopg [8] (L.length + 2) (fun g s8 wr => ∃ i : Nat, i ≤ L.length ∧ i + g = L.length + 2 ∧ s8 = .int .i64 (i : Int) ∧ (∀ j, j < i → mayB (SM.av L j, SM.sv L j) = true) ∧ Below w.heap.size w wr)
  case atStart => exact ⟨0, by omega, by omega, rfl, fun j h => absurd h (by omega), Below.refl _ _⟩
  case round =>
    obtain ⟨i, hi1, hg, rfl, hs, hB⟩ := hrel
    have HG := hidd hg
    have HS := hidd hs
    have HB := hidd hB
    clear hg hs hB
    by_cases hin : i < L.length
    · have hin2 : (i : Int) < (L.length : Int) := by omega
      have hi0 : (0 : Int) ≤ (i : Int) := by omega
      obtain ⟨ad, rfl, ha, x0, x1⟩ := (HA.out.below HB.out).send i hin
      rw [(av_at hin).1] at x0
      rw [(av_at hin).2] at x1
      have hno : mayB (SM.av L i, SM.sv L i) = false → ¬ MayAll L := fun h hh => by
        have := hh i hin
        rw [h] at this
        exact absurd this (by decide)
      have HNO := hidd hno
      have hst : mayB (SM.av L i, SM.sv L i) = true → ∀ k, k < i + 1 → mayB (SM.av L k, SM.sv L k) = true := fun h k k1 => by
        by_cases hk : k = i
        · subst hk; exact h
        · exact HS.out k (by omega)
      have HST := hidd hst
      clear hst
      have hBB := HB.out
      have hBs := hBB.size
      have ci := hidd (C.out (SM.av L i) (SM.sv L i))
      clear hno
      generalize SM.av L i = a0 at *
      generalize SM.sv L i = a1 at *
      obtain ⟨M, hM⟩ : ∃ M, mayB (a0, a1) = M := ⟨_, rfl⟩
      have HM := hidd hM
      rw [hM] at ci
      clear hM
      cases M
      · go_wp2_with fail
        refine (ci.out _).mono ?_
        rintro e w2 ⟨rfl, hb2⟩
        go_wp2_with fail
        go_ret
        exact HID.out _ _ (by omega) (by omega) ⟨fun _ => HNO.out HM.out, fun _ => by omega⟩ (by (repeat' (first | (with_reducible exact Below.refl _ _) | (with_reducible assumption) | (with_reducible apply Below.setCell) | (with_reducible apply Below.alloc) | (with_reducible apply Below.drew) | (with_reducible apply below_drewN) | (with_reducible refine Below.trans ?_ (Below.mono (by assumption) ?_)) | omega | (simp; done) | (simp; omega))))
      · go_wp2_with fail
        refine (ci.out _).mono ?_
        rintro e w2 ⟨rfl, hb2⟩
        go_wp2_with fail
        have hg := HG.out
        go_roundg (gk - 1)
        case measure => omega
        case rel => exact ⟨i + 1, by omega, by omega, by go_num, HST.out HM.out, by (repeat' (first | (with_reducible exact Below.refl _ _) | (with_reducible assumption) | (with_reducible apply Below.setCell) | (with_reducible apply Below.alloc) | (with_reducible apply Below.drew) | (with_reducible apply below_drewN) | (with_reducible refine Below.trans ?_ (Below.mono (by assumption) ?_)) | omega | (simp; done) | (simp; omega)))⟩
    · have hall : MayAll L := fun j h2 => HS.out j (by omega)
      have HALL := hidd hall
      have hin2 : ¬ (i : Int) < (L.length : Int) := by omega
      clear hall
      go_wp2_with fail
      go_ret
      exact HID.out _ _ (by omega) (by omega) ⟨fun h => absurd h (by omega), fun h => absurd HALL.out h⟩ HB.out
theorem conL_any (A : Option Addr) (L : List (Int × Int)) (c : Nat) (hL : L.length ≤ 1000000) (w : World) (hA : Lie sendV 2 w w.heap.size A L) :
    Calls Try.prog 29 #[.slice A L.length c, .func (.func 30) #[] #[]] w (MayEnd (¬ MayAll L) w) := by
  have ci := hidd (idxL_any A L c hL w hA)
  clear hA
  unfold MayEnd
  go_enter Try.func29, Try.ntmps29
  go_wp2_with fail
  refine ci.out.mono ?_
  rintro e w1 ⟨n, rfl, h1, h2, hb⟩
  have H2 := hidd h2
  have HB := hidd hb
  clear h2 hb
  by_cases h0 : 0 ≤ n
  · go_wp2_with fail
    go_ret
    exact ⟨true, by simp, ⟨fun _ => H2.out.1 h0, fun _ => rfl⟩, HB.out⟩
  · go_wp2_with fail
    go_ret
    exact ⟨false, by simp; omega, ⟨fun h => absurd h Bool.false_ne_true, fun h => absurd (H2.out.2 h) (by omega)⟩, HB.out⟩

set_option maxHeartbeats 2000000 in
theorem idxC_any (A : Option Addr) (L : List (Int × Int)) (c : Nat) (hL : L.length ≤ 1000000) (w : World) (hA : Lie sendV 2 w w.heap.size A L) :
    Calls Try.prog 51 #[.slice A L.length c, .func (.func 30) #[] #[]] w (IdxEnd L w) := by
  have HA := hidd hA
  have C := hidd (fun a b W => isNoLine_any a b W)
  obtain ⟨P, hP⟩ : ∃ P : Prop, MayAll L = P := ⟨_, rfl⟩
  have HP := hidd hP
  have HID := hidd (idxEnd_of (L := L) (w := w))
  clear hA hP
  go_enter Try.func51, Try.ntmps51
  go_wp2_with fail
  go_loopg [8] (L.length + 2) (fun g s8 wr => ∃ i : Nat, i ≤ L.length ∧ i + g = L.length + 2 ∧ s8 = .int .i64 (i : Int) ∧ (∀ j, j < i → mayB (SM.av L j, SM.sv L j) = true) ∧ Below w.heap.size w wr)
  case atStart => exact ⟨0, by omega, by omega, rfl, fun j h => absurd h (by omega), Below.refl _ _⟩
  case round =>
    obtain ⟨i, hi1, hg, rfl, hs, hB⟩ := hrel
    have HG := hidd hg
    have HS := hidd hs
    have HB := hidd hB
    clear hg hs hB
    by_cases hin : i < L.length
    · have hin2 : (i : Int) < (L.length : Int) := by omega
      have hi0 : (0 : Int) ≤ (i : Int) := by omega
      obtain ⟨ad, rfl, ha, x0, x1⟩ := (HA.out.below HB.out).send i hin
      rw [(av_at hin).1] at x0
      rw [(av_at hin).2] at x1
      have hno : mayB (SM.av L i, SM.sv L i) = false → ¬ MayAll L := fun h hh => by
        have := hh i hin
        rw [h] at this
        exact absurd this (by decide)
      have HNO := hidd hno
      have hst : mayB (SM.av L i, SM.sv L i) = true → ∀ k, k < i + 1 → mayB (SM.av L k, SM.sv L k) = true := fun h k k1 => by
        by_cases hk : k = i
        · subst hk; exact h
        · exact HS.out k (by omega)
      have HST := hidd hst
      clear hst
      have hBB := HB.out
      have hBs := hBB.size
      have ci := hidd (C.out (SM.av L i) (SM.sv L i))
      clear hno
      generalize SM.av L i = a0 at *
      generalize SM.sv L i = a1 at *
      obtain ⟨M, hM⟩ : ∃ M, mayB (a0, a1) = M := ⟨_, rfl⟩
      have HM := hidd hM
      rw [hM] at ci
      clear hM
      cases M
      · go_wp2_with fail
        refine (ci.out _).mono ?_
        rintro e w2 ⟨rfl, hb2⟩
        go_wp2_with fail
        go_ret
        exact HID.out _ _ (by omega) (by omega) ⟨fun _ => HNO.out HM.out, fun _ => by omega⟩ (by (repeat' (first | (with_reducible exact Below.refl _ _) | (with_reducible assumption) | (with_reducible apply Below.setCell) | (with_reducible apply Below.alloc) | (with_reducible apply Below.drew) | (with_reducible apply below_drewN) | (with_reducible refine Below.trans ?_ (Below.mono (by assumption) ?_)) | omega | (simp; done) | (simp; omega))))
      · go_wp2_with fail
        refine (ci.out _).mono ?_
        rintro e w2 ⟨rfl, hb2⟩
        go_wp2_with fail
        have hg := HG.out
        go_roundg (gk - 1)
        case measure => omega
        case rel => exact ⟨i + 1, by omega, by omega, by go_num, HST.out HM.out, by (repeat' (first | (with_reducible exact Below.refl _ _) | (with_reducible assumption) | (with_reducible apply Below.setCell) | (with_reducible apply Below.alloc) | (with_reducible apply Below.drew) | (with_reducible apply below_drewN) | (with_reducible refine Below.trans ?_ (Below.mono (by assumption) ?_)) | omega | (simp; done) | (simp; omega)))⟩
    · have hall : MayAll L := fun j h2 => HS.out j (by omega)
      have HALL := hidd hall
      have hin2 : ¬ (i : Int) < (L.length : Int) := by omega
      clear hall
      go_wp2_with fail
      go_ret
      exact HID.out _ _ (by omega) (by omega) ⟨fun h => absurd h (by omega), fun h => absurd HALL.out h⟩ HB.out
theorem conC_any (A : Option Addr) (L : List (Int × Int)) (c : Nat) (hL : L.length ≤ 1000000) (w : World) (hA : Lie sendV 2 w w.heap.size A L) :
    Calls Try.prog 44 #[.slice A L.length c, .func (.func 30) #[] #[]] w (MayEnd (¬ MayAll L) w) := by
  have ci := hidd (idxC_any A L c hL w hA)
  clear hA
  unfold MayEnd
  go_enter Try.func44, Try.ntmps44
  go_wp2_with fail
  refine ci.out.mono ?_
  rintro e w1 ⟨n, rfl, h1, h2, hb⟩
  have H2 := hidd h2
  have HB := hidd hb
  clear h2 hb
  by_cases h0 : 0 ≤ n
  · go_wp2_with fail
    go_ret
    exact ⟨true, by simp, ⟨fun _ => H2.out.1 h0, fun _ => rfl⟩, HB.out⟩
  · go_wp2_with fail
    go_ret
    exact ⟨false, by simp; omega, ⟨fun h => absurd h Bool.false_ne_true, fun h => absurd (H2.out.2 h) (by omega)⟩, HB.out⟩
end Go.Proofs.Ytpgaklfgbioocaa

namespace Go.Proofs.Ytpgaklfgbioocaa
set_option linter.unusedVariables false
open Go.RowKit Go.Proofs.Ytpgaklfgbioocaa.RowK

theorem allLines_one (v : Value) (L : List (Int × Int)) : allLines [(v, L)] = L := by simp [allLines]
theorem curves_one {w : World} {A : Option Addr} {c : Nat} {L : List (Int × Int)} (h : Lie sendV 2 w w.heap.size A L) (t : TypeId) :
    Curves (w.alloc (.cells #[.slice A L.length c] t)) (w.alloc (.cells #[.slice A L.length c] t)).heap.size (some ⟨w.heap.size, 0, none⟩) [(.slice A L.length c, L)] := by
  have hb := below_new (Below.refl w.heap.size w) (.cells #[.slice A L.length c] t)
  refine ⟨fun _ => ⟨_, rfl, by simp, fun i x hx j v hv => ?_⟩, fun x hx => ?_⟩
  · match i, hx with
    | 0, hx =>
      have : (Value.slice A L.length c, L) = x := by simpa using hx
      subst this
      match j, hv with
      | 0, hv =>
        have : Value.slice A L.length c = v := by simpa [curV] using hv
        subst this
        simp [go_sem, Addr.add]
  · have : x = (Value.slice A L.length c, L) := by simpa using hx
    subst this
    exact ⟨A, c, rfl, (h.keep hb).more (by simp)⟩
theorem MayAll.ok {L : List (Int × Int)} (h : MayAll L) : okL L := fun x hx => by
  obtain ⟨i, hi, rfl⟩ := List.mem_iff_getElem.1 hx
  have := mayB_iff (h i hi)
  rw [(av_at hi).1, (av_at hi).2]
  simp only at this
  omega
theorem rgt_low {L : List (Int × Int)} (h0 : 1 ≤ L.length) (h1 : L.length ≤ 32) (hm : MayAll L) : CM.low L = L ↔ RgtC L := by
  have hne : L ≠ [] := fun e => by subst e; simp at h0
  constructor
  · exact fun h => ⟨⟨h0, h1⟩, hm, CM.low_iff.1 ⟨h, hne⟩⟩
  · exact fun h => CM.low_self h.2.2
set_option maxHeartbeats 2000000 in
theorem isNone_any (A : Option Addr) (L : List (Int × Int)) (c : Nat) (hL : L.length ≤ 1000000) (w : World) (hA : Lie sendV 2 w w.heap.size A L) :
    Calls Try.prog 26 #[.slice A L.length c] w (MayEnd (¬ RgtC L) w) := by
  unfold MayEnd
  obtain ⟨P, hP⟩ : ∃ P : Prop, RgtC L = P := ⟨_, rfl⟩
  rw [hP]
  have HP := hidd hP
  clear hP
  by_cases h0 : L.length = 0
  · have hn : ¬ P := fun h => by have := (HP.out ▸ h : RgtC L).1; omega
    have HN := hidd hn
    rw [h0]
    clear hn h0 HP hA
    go_enter Try.func26, Try.ntmps26
    go_wp2_with fail
    go_ret
    exact ⟨true, by simp, ⟨fun _ => HN.out, fun _ => rfl⟩, Below.refl _ _⟩
  by_cases h1 : 32 < L.length
  · have hn : ¬ P := fun h => by have := (HP.out ▸ h : RgtC L).1; omega
    have HN := hidd hn
    have h2 : ((L.length : Int) == 0) = false := beq_eq_false_iff_ne.2 (by omega)
    have h3 : (32 : Int) < (L.length : Int) := by omega
    clear hn h0 HP hA
    go_enter Try.func26, Try.ntmps26
    go_wp2_with fail
    go_ret
    exact ⟨true, by first | rfl | simp, ⟨fun _ => HN.out, fun _ => rfl⟩, Below.refl _ _⟩
  have h2 : ((L.length : Int) == 0) = false := beq_eq_false_iff_ne.2 (by omega)
  have h3 : ¬ (32 : Int) < (L.length : Int) := by omega
  have HA := hidd hA
  have cc := hidd (conC_any A L c hL w hA)
  have HL0 : Hid (1 ≤ L.length ∧ L.length ≤ 32) := hidd ⟨by omega, by omega⟩
  have cl := hidd (fun (hm : MayAll L) (W : World) (hW : Lie sendV 2 W W.heap.size A L) => lowest_any (some ⟨W.heap.size, 0, none⟩) 1 [(.slice A L.length c, L)] (by simp) (by simp; omega) (by rw [allLines_one]; omega) (by rw [allLines_one]; exact fun e => by rw [e] at h0; simp at h0) (by rw [allLines_one]; exact hm.ok) _ (curves_one hW 25))
  clear hA h0 h1
  go_enter Try.func26, Try.ntmps26
  go_wp2_with fail
  refine cc.out.mono ?_
  rintro e w1 ⟨R, rfl, hR, hb1⟩
  have HR := hidd hR
  have HB1 := hidd hb1
  clear hR hb1
  cases R
  · have hm : MayAll L := Classical.not_not.1 (fun h => absurd (HR.out.2 h) Bool.false_ne_true)
    have HM := hidd hm
    have ck := hidd (cl.out hm w1 (HA.out.below HB1.out))
    rw [allLines_one] at ck
    clear cl hm
    go_wp2_with fail
    refine ck.out.mono ?_
    rintro e w2 ⟨v, rfl, hO, hb2⟩
    obtain ⟨A2, c2, rfl, _, _, hl2⟩ := hO.lie sendV_len
    have hb3 := below_step (below_new HB1.out (.cells #[.slice A L.length c] 25)) hb2
    have HB3 := hidd hb3
    have ce := hidd (equal_any A2 A (CM.low L) L c2 c (Nat.le_trans (CM.low_len L) hL) hL w2 hl2 (HA.out.below hb3))
    clear hO hl2 hb2 hb3
    go_wp2_with fail
    refine ce.out.mono ?_
    rintro e w3 ⟨rfl, q, rfl⟩
    obtain ⟨T, hT⟩ : ∃ T, decide (CM.low L = L) = T := ⟨_, rfl⟩
    rw [hT]
    have HT := hidd hT
    clear hT
    go_wp2_with fail
    go_ret
    refine ⟨!T, by first | rfl | simp, ?_, by have := HB3.out; (repeat' (first | (with_reducible exact Below.refl _ _) | (with_reducible assumption) | (with_reducible apply Below.setCell) | (with_reducible apply Below.alloc) | (with_reducible apply Below.drew) | (with_reducible apply below_drewN) | (with_reducible refine Below.trans ?_ (Below.mono (by assumption) ?_)) | omega | (simp; done) | (simp; omega)))⟩
    have hrl := rgt_low HL0.out.1 HL0.out.2 HM.out
    rw [HP.out] at hrl
    rw [← HT.out]
    by_cases hlow : CM.low L = L
    · simp [hlow, hrl.1 hlow]
    · have : ¬ P := fun h => hlow (hrl.2 h)
      simp [hlow, this]
  · have hnm : ¬ MayAll L := HR.out.1 rfl
    have hn : ¬ P := fun h => hnm (HP.out ▸ h : RgtC L).2.1
    have HN := hidd hn
    clear hnm hn cl
    go_wp2_with fail
    go_ret
    exact ⟨true, by first | rfl | simp, ⟨fun _ => HN.out, fun _ => rfl⟩, HB1.out⟩
end Go.Proofs.Ytpgaklfgbioocaa

namespace Go.Proofs.Ytpgaklfgbioocaa
set_option linter.unusedVariables false
open Go.RowKit Go.Proofs.Ytpgaklfgbioocaa.RowK

def boundP (L : List (Int × Int)) : Prop := L.length ≤ 32 ∧ SM.sv L 0 ≤ 1000000000 ∧ SM.av L (L.length - 1) ≤ 1000000000
set_option maxHeartbeats 2000000 in
theorem bounded_any (A : Option Addr) (L : List (Int × Int)) (c : Nat) (hL : L.length ≤ 1000000) (h0 : 0 < L.length) (w : World) (hA : Lie sendV 2 w w.heap.size A L) :
    (boundP L → Calls Try.prog 22 #[.slice A L.length c] w fun e w' => e = .returned (.tuple #[.slice A L.length c, .int .i64 0]) ∧ w' = w) ∧
    (¬ boundP L → Calls Try.prog 22 #[.slice A L.length c] w fun e w' => e = .returned (.tuple #[.slice none 0 0, .int .i64 3]) ∧ w' = w) := by
  obtain ⟨ad, rfl, hb, x0, x1⟩ := hA.send 0 h0
  obtain ⟨m, hm⟩ : ∃ m, L.length = m + 1 := ⟨L.length - 1, by omega⟩
  obtain ⟨ad', e', _, y0, y1⟩ := hA.send m (by omega)
  injection e' with e'
  subst e'
  rw [(av_at h0).2] at x1
  rw [(av_at (show m < L.length by omega)).1] at y0
  have hbp : boundP L ↔ ((m : Int) + 1 ≤ 32 ∧ SM.sv L 0 ≤ 1000000000 ∧ SM.av L m ≤ 1000000000) := by
    unfold boundP
    rw [hm, Nat.add_sub_cancel]
    constructor
    · rintro ⟨h1, h2, h3⟩; exact ⟨by omega, h2, h3⟩
    · rintro ⟨h1, h2, h3⟩; exact ⟨by omega, h2, h3⟩
  have e0 : ad.add (0 * 2) = ad := by simp [Addr.add]
  rw [e0] at x0 x1
  have hm1 : IntKind.i64.wrap ((m : Int) + 1 - 1) = (m : Int) := by rw [IntWalk.i64_in _ (by omega)]; omega
  have hm2 : (0 : Int) ≤ (m : Int) := by omega
  have hm3 : (m : Int) < (m : Int) + 1 := by omega
  have hm4 : (0 : Int) < (m : Int) + 1 := by omega
  have hm5 : IntKind.i64.wrap (m : Int) = (m : Int) := IntWalk.i64_in _ (by omega)
  have hm6 : (m : Int) ≤ 1000000 := by omega
  rw [hm]
  rw [hbp]
  clear hbp hA hm h0 hL x0 y1 e0
  generalize SM.sv L 0 = r at *
  generalize SM.av L m = b at *
  by_cases h1 : (m : Int) + 1 ≤ 32
  · by_cases h2 : r ≤ 1000000000
    · by_cases h3 : b ≤ 1000000000
      · refine ⟨fun _ => ?_, fun h => absurd ⟨h1, h2, h3⟩ h⟩
        go_enter Try.func22, Try.ntmps22
        go_wp2_with fail
        go_ret2
        exact ⟨rfl, rfl⟩
      · refine ⟨fun h => absurd h.2.2 h3, fun _ => ?_⟩
        have h3' : 1000000000 < b := by omega
        go_enter Try.func22, Try.ntmps22
        go_wp2_with fail
        go_ret2
        exact ⟨rfl, rfl⟩
    · refine ⟨fun h => absurd h.2.1 h2, fun _ => ?_⟩
      have h2' : 1000000000 < r := by omega
      go_enter Try.func22, Try.ntmps22
      go_wp2_with fail
      go_ret2
      exact ⟨rfl, rfl⟩
  · refine ⟨fun h => absurd h.1 h1, fun _ => ?_⟩
    have h1' : (32 : Int) < (m : Int) + 1 := by omega
    go_enter Try.func22, Try.ntmps22
    go_wp2_with fail
    go_ret2
    exact ⟨rfl, rfl⟩
theorem may_bound {L : List (Int × Int)} (hm : MayAll L) (h0 : 0 < L.length) (h32 : L.length ≤ 32) : boundP L := by
  have h1 := mayB_iff (hm 0 h0)
  have h2 := mayB_iff (hm (L.length - 1) (by omega))
  simp only at h1 h2
  exact ⟨h32, h1.2.2.2, h2.2.1⟩
theorem may_low {L : List (Int × Int)} (hm : MayAll L) : MayAll (CM.low L) := fun i hi => by
  have h := CM.low_mem (List.getElem_mem hi)
  obtain ⟨k, hk, e⟩ := List.mem_iff_getElem.1 h
  have := hm k hk
  rw [← (av_at hk).1, ← (av_at hk).2, e, (av_at hi).1, (av_at hi).2] at this
  exact this
theorem low_pos {L : List (Int × Int)} (h0 : 0 < L.length) : 0 < (CM.low L).length := (CM.low_nrm (fun e => by rw [e] at h0; simp at h0)).1
/-- what Make tells, of lines L: the curve; or an error's number. -/
def MakeEnd (L R : List (Int × Int)) (no : Int) (w : World) (e : Ending) (w' : World) : Prop :=
  ∃ v, e = .returned (.tuple #[v, .int .i64 no]) ∧ OwnL sendV 2 w' w.heap.size 44 v R ∧ Below w.heap.size w w'
theorem make_good (A : Option Addr) (L : List (Int × Int)) (c : Nat) (hL : L.length ≤ 1000000) (w : World) (hA : Lie sendV 2 w w.heap.size A L) (hm : MayAll L) (h0 : 0 < L.length) :
    ((CM.low L).length ≤ 32 → Calls Try.prog 17 #[.slice A L.length c] w (MakeEnd L (CM.low L) 0 w)) ∧ (¬ (CM.low L).length ≤ 32 → Calls Try.prog 17 #[.slice A L.length c] w (MakeEnd L [] 3 w)) := by
  have cc := hidd (conL_any A L c hL w hA)
  have h2 : ((L.length : Int) == 0) = false := beq_eq_false_iff_ne.2 (by omega)
  have HA := hidd hA
  have cl := hidd (fun (W : World) (hW : Lie sendV 2 W W.heap.size A L) => lowest_any (some ⟨W.heap.size, 0, none⟩) 1 [(.slice A L.length c, L)] (by simp) (by simp; omega) (by rw [allLines_one]; omega) (by rw [allLines_one]; exact fun e => by rw [e] at h0; simp at h0) (by rw [allLines_one]; exact hm.ok) _ (curves_one hW 25))
  have hml := may_low hm
  have hpl := low_pos h0
  have hll := CM.low_len L
  have HM := hidd hm
  have cb := hidd (fun A2 c2 W (hW : Lie sendV 2 W W.heap.size A2 (CM.low L)) => bounded_any A2 (CM.low L) c2 (by omega) hpl W hW)
  have hbd : (CM.low L).length ≤ 32 ↔ boundP (CM.low L) := ⟨fun h => may_bound hml hpl h, fun h => h.1⟩
  have HBD := hidd hbd
  clear hA hm h0 hml hpl hll hbd
  constructor
  · intro h32
    have hbp := HBD.out.1 h32
    have HBP := hidd hbp
    clear h32 hbp
    unfold MakeEnd
    go_enter Try.func17, Try.ntmps17
    go_wp2_with fail
    refine cc.out.mono ?_
    rintro e w1 ⟨R, rfl, hR, hb1⟩
    obtain rfl : R = false := by cases R; rfl; exact absurd HM.out (hR.1 rfl)
    have ck := hidd (cl.out w1 (HA.out.below hb1))
    rw [allLines_one] at ck
    have HB1 := hidd hb1
    clear hR cl hb1
    go_wp2_with fail
    refine ck.out.mono ?_
    rintro e w2 ⟨v, rfl, hO, hb2⟩
    have hb3 := below_step (below_new HB1.out (.cells #[.slice A L.length c] 25)) hb2
    have HB3 := hidd hb3
    obtain ⟨A2, c2, rfl, _, _, hl2⟩ := hO.lie sendV_len
    have ce := hidd ((cb.out A2 c2 w2 hl2).1 HBP.out)
    have HO := hidd (hO.base (by have := HB1.out.size; simp; omega) : OwnL sendV 2 w2 w.heap.size 44 _ _)
    clear hO hl2 hb2 hb3 cb
    go_wp2_with fail
    refine ce.out.mono ?_
    rintro e w3 ⟨rfl, rfl⟩
    go_wp2_with fail
    go_ret2
    exact ⟨_, rfl, HO.out, HB3.out⟩
  · intro h32
    have hbp : ¬ boundP (CM.low L) := fun h => h32 (HBD.out.2 h)
    have HBP := hidd hbp
    clear h32 hbp
    unfold MakeEnd
    go_enter Try.func17, Try.ntmps17
    go_wp2_with fail
    refine cc.out.mono ?_
    rintro e w1 ⟨R, rfl, hR, hb1⟩
    obtain rfl : R = false := by cases R; rfl; exact absurd HM.out (hR.1 rfl)
    have ck := hidd (cl.out w1 (HA.out.below hb1))
    rw [allLines_one] at ck
    have HB1 := hidd hb1
    clear hR cl hb1
    go_wp2_with fail
    refine ck.out.mono ?_
    rintro e w2 ⟨v, rfl, hO, hb2⟩
    have hb3 := below_step (below_new HB1.out (.cells #[.slice A L.length c] 25)) hb2
    have HB3 := hidd hb3
    obtain ⟨A2, c2, rfl, _, _, hl2⟩ := hO.lie sendV_len
    have ce := hidd ((cb.out A2 c2 w2 hl2).2 HBP.out)
    clear hO hl2 hb2 hb3 cb
    go_wp2_with fail
    refine ce.out.mono ?_
    rintro e w3 ⟨rfl, rfl⟩
    go_wp2_with fail
    go_ret2
    exact ⟨_, rfl, OwnL.nil _ _ _, HB3.out⟩
end Go.Proofs.Ytpgaklfgbioocaa

namespace Go.Proofs.Ytpgaklfgbioocaa
set_option linter.unusedVariables false
open Go.RowKit Go.Proofs.Ytpgaklfgbioocaa.RowK

theorem isMin_one (x : Int × Int) (N D : Int) : CM.IsMin [x] N D (CM.val x N D) := by
  refine ⟨⟨x, by simp, rfl⟩, fun y hy => ?_⟩
  have : y = x := by simpa using hy
  subst this
  exact Int.le_refl _
theorem isMin_snoc {L : List (Int × Int)} {x : Int × Int} {N D v : Int} (h : CM.IsMin L N D v) : CM.IsMin (L ++ [x]) N D (if CM.val x N D < v then CM.val x N D else v) := by
  obtain ⟨⟨y, hy, e⟩, h2⟩ := h
  by_cases hl : CM.val x N D < v
  · rw [if_pos hl]
    refine ⟨⟨x, by simp, rfl⟩, fun z hz => ?_⟩
    rcases List.mem_append.1 hz with h | h
    · have := h2 z h; omega
    · have : z = x := by simpa using h
      subst this; exact Int.le_refl _
  · rw [if_neg hl]
    refine ⟨⟨y, by simp [hy], e⟩, fun z hz => ?_⟩
    rcases List.mem_append.1 hz with h | h
    · exact h2 z h
    · have : z = x := by simpa using h
      subst this; omega
theorem isMin_step {L : List (Int × Int)} {i : Nat} (hi : i < L.length) {N D v : Int} (h : CM.IsMin (L.take i) N D v) : CM.IsMin (L.take (i + 1)) N D (if CM.vl L i N D < v then CM.vl L i N D else v) := by
  rw [take_one hi]
  exact isMin_snoc h
theorem isMin_first {L : List (Int × Int)} (h : 0 < L.length) (N D : Int) : CM.IsMin (L.take 1) N D (CM.vl L 0 N D) := by
  rw [take_one h]
  exact isMin_one _ _ _
theorem Lie.tail2 {w : World} {B : Nat} {ad : Addr} {L : List (Int × Int)} (h : Lie sendV 2 w B (some ad) L) : Lie sendV 2 w B (some ⟨ad.block, ad.off + 2, none⟩) L.tail := fun hl => by
  obtain ⟨ad', e, hB, hc⟩ := h (by cases L <;> simp_all)
  obtain rfl : ad = ad' := by injection e
  refine ⟨_, rfl, hB, fun i x hx j v hv => ?_⟩
  have e2 : Addr.add ⟨ad.block, ad.off + 2, none⟩ (i * 2 + j) = ad.add ((i + 1) * 2 + j) := by
    have : (⟨ad.block, ad.off + 2, none⟩ : Addr) = ad.add 2 := rfl
    rw [this, add_of_add]; congr 1; omega
  rw [e2]
  exact hc (i + 1) x (by rw [← hx]; cases L <;> simp) j v hv
theorem tail_at (L : List (Int × Int)) (i : Nat) : SM.av L.tail i = SM.av L (i + 1) ∧ SM.sv L.tail i = SM.sv L (i + 1) := by
  cases L <;> simp [SM.av, SM.sv, List.getD_eq_getElem?_getD]
def AtEnd (L : List (Int × Int)) (t : Int) (w : World) (e : Ending) (w' : World) : Prop := ∃ x : Int, e = .returned (.tuple #[.int .i64 x, .int .i64 0]) ∧ CM.IsMin L t 1 x ∧ Below w.heap.size w w'
set_option maxRecDepth 100000 in
set_option maxHeartbeats 4000000 in
theorem curveAt_yes (A : Option Addr) (L : List (Int × Int)) (c : Nat) (t : Int) (hc : L.length ≤ c) (hcm : c ≤ maxLen) (w : World) (hA : Lie sendV 2 w w.heap.size A L) (hr : RgtC L) (ht : tickB t = true) :
    Calls Try.prog 14 #[.slice A L.length c, .int .i64 t] w (AtEnd L t w) := by
  unfold maxLen at hcm
  have cn := hidd (isNone_any A L c (by have := hr.1; omega) w hA)
  have ct := hidd (fun W => curveTick_any t W)
  obtain ⟨ht0, ht1⟩ : 0 ≤ t ∧ t ≤ 2147483647 := of_decide_eq_true ht
  rw [ht] at ct
  obtain ⟨n, hn⟩ : ∃ n, L.length = n + 1 := ⟨L.length - 1, by have := hr.1; omega⟩
  have hn32 : n ≤ 31 := by have := hr.1; omega
  have HM := hidd hr.2.1
  have HR := hidd hr
  have HN := hidd hn
  obtain ⟨ad, rfl, hab, x0, x1⟩ := hA.send 0 (by omega)
  rw [(av_at (show 0 < L.length by omega)).1] at x0
  rw [(av_at (show 0 < L.length by omega)).2] at x1
  have e0 : ad.add (0 * 2) = ad := by simp [Addr.add]
  rw [e0] at x0 x1
  have HA := hidd hA
  have ch := hidd (fun i (hi : i < L.length) W => by
    have h := mayB_iff (HM.out i hi)
    simp only at h
    exact height_any (SM.av L i) (SM.sv L i) t h.1 h.2.1 h.2.2.1 h.2.2.2 ht0 ht1 W)
  have hbd : ∀ i, i < L.length → 0 ≤ SM.av L i + SM.sv L i * t ∧ SM.av L i + SM.sv L i * t ≤ 2147483648000000000 := fun i hi => by
    have h := mayB_iff (HM.out i hi)
    simp only at h
    have := high_bd h.1 h.2.1 h.2.2.1 h.2.2.2 ht0 ht1
    omega
  have HBD := hidd hbd
  have hv : ∀ i, CM.vl L i t 1 = SM.av L i + SM.sv L i * t := fun i => by unfold CM.vl; omega
  have HV := hidd hv
  have hF := isMin_first (L := L) (by omega) t 1
  rw [hv] at hF
  have HF := hidd hF
  have hSt := fun i (hi : i < L.length) v (h : CM.IsMin (L.take i) t 1 v) => isMin_step hi h
  have HSt := hidd hSt
  have c0 := hidd (fun W => ch.out 0 (by omega) W)
  unfold AtEnd
  rw [hn]
  rw [hn] at cn
  have hb0 := hbd 0 (by omega)
  clear hbd hv hF hSt hA hr ht e0 hn
  generalize hx0 : SM.av L 0 + SM.sv L 0 * t = X at *
  have HX0 := hidd hx0
  clear hx0
  generalize SM.av L 0 = a0 at *
  generalize SM.sv L 0 = a1 at *
  by_cases hc1 : c = 1
  · obtain rfl : n = 0 := by have := HN.out; omega
    subst hc1
    go_enter Try.func14, Try.ntmps14
    go_wp2_with fail
    refine cn.out.mono ?_
    rintro e w1 ⟨R, rfl, hR, hb1⟩
    obtain rfl : R = false := by cases R; rfl; exact absurd HR.out (hR.1 rfl)
    have z0 := (hb1.cell (p := ad) hab).trans x0
    have z1 := (hb1.cell (p := ⟨ad.block, ad.off + 1, none⟩) hab).trans x1
    have HB1 := hidd hb1
    clear hR hb1 x0 x1
    go_wp2_with fail
    refine (ct.out _).mono ?_
    rintro e w2 ⟨rfl, rfl⟩
    go_wp2_with fail
    refine (c0.out _).mono ?_
    rintro e w2 ⟨rfl, hb2⟩
    go_wp2_with fail
    refine wp_loop_rounds 1 ?_
    rw [rounds_succ]
    go_wp2_with fail
    go_ret2
    refine ⟨_, rfl, ?_, below_step HB1.out hb2⟩
    have := HF.out
    rwa [List.take_of_length_le (by rw [HN.out]; omega)] at this
  · have HT := hidd (HA.out.tail2)
    go_enter Try.func14, Try.ntmps14
    go_wp2_with fail
    refine cn.out.mono ?_
    rintro e w1 ⟨R, rfl, hR, hb1⟩
    obtain rfl : R = false := by cases R; rfl; exact absurd HR.out (hR.1 rfl)
    have z0 := (hb1.cell (p := ad) hab).trans x0
    have z1 := (hb1.cell (p := ⟨ad.block, ad.off + 1, none⟩) hab).trans x1
    have HB1 := hidd hb1
    clear hR hb1 x0 x1
    go_wp2_with fail
    refine (ct.out _).mono ?_
    rintro e w2 ⟨rfl, rfl⟩
    go_wp2_with fail
    refine (c0.out _).mono ?_
    rintro e w2 ⟨rfl, hb2⟩
    have HB2 := hidd (below_step HB1.out hb2)
    clear hb2
    go_wp2_with fail
    go_loopg [6, 24] (n + 1) (fun g s6 s24 wr => ∃ (i : Nat) (x : Int), i ≤ n ∧ i + g = n + 1 ∧ s24 = .int .i64 (i : Int) ∧ s6 = .int .i64 x ∧ CM.IsMin (L.take (i + 1)) t 1 x ∧ (0 ≤ x ∧ x ≤ 2147483648000000000) ∧ Below w.heap.size w wr)
    case atStart => exact ⟨0, _, by omega, by omega, rfl, rfl, HF.out, hb0, HB2.out⟩
    case round =>
      obtain ⟨i, x, hi, hk, rfl, rfl, hx, ⟨hx0, hx1⟩, hB⟩ := hrel
      have HK := hidd hk
      have HX := hidd hx
      have HB := hidd hB
      clear hk hx hB
      by_cases hlt : i < n
      · obtain ⟨ad', e', hb', y0, y1⟩ := (HT.out.keep HB.out).send i (by rw [List.length_tail, HN.out]; exact hlt)
        obtain rfl : (⟨ad.block, ad.off + 2, none⟩ : Addr) = ad' := by injection e'
        have hlt2 : i < L.tail.length := by rw [List.length_tail, HN.out]; exact hlt
        rw [(av_at hlt2).1, (tail_at L i).1, add_plain] at y0
        rw [(av_at hlt2).2, (tail_at L i).2, add_plain] at y1
        dsimp only at y0 y1
        have hi1 : i + 1 < L.length := by rw [HN.out]; omega
        have cs := hidd (fun W => ch.out (i + 1) hi1 W)
        have hst := HSt.out (i + 1) hi1 x HX.out
        rw [HV.out] at hst
        have HST := hidd hst
        obtain ⟨u0, u1⟩ := HBD.out (i + 1) hi1
        have hin2 : (i : Int) < (n : Int) := by omega
        have hi0 : (0 : Int) ≤ (i : Int) := by omega
        clear e' hst hb' hlt2
        generalize hY : SM.av L (i + 1) + SM.sv L (i + 1) * t = Y at *
        clear hY
        generalize SM.av L (i + 1) = b0 at *
        generalize SM.sv L (i + 1) = b1 at *
        go_wp2_with fail
        refine (cs.out _).mono ?_
        rintro e w3 ⟨rfl, hb3⟩
        have HB3 := hidd (below_step (below_new HB.out _) hb3)
        clear hb3 y0 y1
        obtain ⟨Z, hZ⟩ : ∃ Z, (if Y < x then Y else x) = Z := ⟨_, rfl⟩
        have hZ2 : 0 ≤ Z ∧ Z ≤ 2147483648000000000 := by rw [← hZ]; split <;> omega
        have hmin : min x Y = Z := by rw [← hZ, Int.min_def]; split <;> split <;> omega
        rw [hZ] at HST
        have HMIN := hidd hmin
        clear hmin hZ
        go_wp2_with fail
        have hk := HK.out
        go_roundg (gk - 1)
        case measure => omega
        case rel => exact ⟨i + 1, Z, by omega, by omega, by go_num, by rw [HMIN.out], HST.out, hZ2, HB3.out⟩
      · obtain rfl : i = n := by omega
        go_wp2_with fail
        go_ret2
        refine ⟨_, rfl, ?_, HB.out⟩
        have := HX.out
        rwa [List.take_of_length_le (by rw [HN.out]; omega)] at this
end Go.Proofs.Ytpgaklfgbioocaa

namespace Go.Proofs.Ytpgaklfgbioocaa
set_option linter.unusedVariables false
open Go.RowKit Go.Proofs.Ytpgaklfgbioocaa.RowK

def RefAtEnd (L : List (Int × Int)) (n d : Int) (w : World) (e : Ending) (w' : World) : Prop := ∃ x : Int, e = .returned (.int .i64 x) ∧ CM.IsMin L n d x ∧ Below w.heap.size w w'
theorem term_bd {x y K : Int} (h0 : 0 ≤ x) (h1 : x ≤ 1000000000) (k0 : 0 ≤ y) (k1 : y ≤ K) : 0 ≤ x * y ∧ x * y ≤ 1000000000 * K := by
  refine ⟨Int.mul_nonneg h0 k0, ?_⟩
  exact Int.mul_le_mul h1 k1 k0 (by decide)
theorem wrap_both {x : Int} (h0 : -9223372036854775808 ≤ x) (h1 : x ≤ 9223372036854775807) : IntKind.i64.wrap x = x ∧ wrap64 x = x := by
  have e1 : IntKind.i64.wrap x = x := IntWalk.i64_in _ (by omega)
  refine ⟨e1, ?_⟩
  conv => rhs; rw [← e1]
  simp [IntKind.wrap_i64, wrap64]
set_option maxRecDepth 100000 in
set_option maxHeartbeats 4000000 in
theorem refAt_any (A : Option Addr) (L : List (Int × Int)) (c : Nat) (n d : Int) (hL : L.length ≤ 1000000) (h0 : 0 < L.length) (hm : MayAll L) (n0 : 0 ≤ n) (n1 : n ≤ 2147483647) (d0 : 1 ≤ d) (d1 : d ≤ 100) (w : World) (hA : Lie sendV 2 w w.heap.size A L) :
    Calls Try.prog 12 #[.slice A L.length c, .int .i64 n, .int .i64 d] w (RefAtEnd L n d w) := by
  have hbd : ∀ i, i < L.length → (0 ≤ SM.av L i * d ∧ SM.av L i * d ≤ 100000000000) ∧ 0 ≤ SM.sv L i * n ∧ SM.sv L i * n ≤ 2147483647000000000 := fun i hi => by
    have h := mayB_iff (hm i hi)
    simp only at h
    have h1 := term_bd h.1 h.2.1 (show 0 ≤ d by omega) d1
    have h2 := term_bd h.2.2.1 h.2.2.2 n0 n1
    omega
  have HBD := hidd hbd
  have hv : ∀ i, CM.vl L i n d = SM.av L i * d + SM.sv L i * n := fun i => rfl
  have HV := hidd hv
  have HA := hidd hA
  have hF := isMin_first (L := L) h0 n d
  have HF := hidd hF
  have hSt := fun i (hi : i < L.length) v (h : CM.IsMin (L.take i) n d v) => isMin_step hi h
  have HSt := hidd hSt
  obtain ⟨ad, rfl, hab, x0, x1⟩ := hA.send 0 h0
  rw [(av_at h0).1] at x0
  rw [(av_at h0).2] at x1
  have e0 : ad.add (0 * 2) = ad := by simp [Addr.add]
  rw [e0] at x0 x1
  have hl0 : (0 : Int) < (L.length : Int) := by omega
  obtain ⟨⟨p0, p1⟩, p2, p3⟩ := hbd 0 h0
  obtain ⟨e1, f1⟩ := wrap_both (x := SM.av L 0 * d) (by omega) (by omega)
  obtain ⟨e2, f2⟩ := wrap_both (x := SM.sv L 0 * n) (by omega) (by omega)
  rw [hv] at HF
  unfold RefAtEnd
  clear hbd hv hF hSt hA e0 hm
  generalize hU : SM.av L 0 * d = U at *
  generalize hV : SM.sv L 0 * n = V at *
  rw [← hU] at e1 f1
  rw [← hV] at e2 f2
  rw [hU] at e1 f1
  rw [hV] at e2 f2
  have g1 : IntKind.i64.wrap (SM.av L 0 * d) = U := by rw [hU]; exact e1
  have g2 : IntKind.i64.wrap (SM.sv L 0 * n) = V := by rw [hV]; exact e2
  have g3 : wrap64 (SM.av L 0 * d) = U := by rw [hU]; exact f1
  have g4 : wrap64 (SM.sv L 0 * n) = V := by rw [hV]; exact f2
  clear hU hV e1 e2 f1 f2
  generalize SM.av L 0 = a0 at *
  generalize SM.sv L 0 = a1 at *
  have g5 : IntKind.i64.wrap (U + V) = U + V := IntWalk.i64_in _ (by omega)
  go_enter Try.func12, Try.ntmps12
  go_wp2_with fail
  go_quiet (fail)
  go_wp2_with fail
  go_loopg [7, 8] (L.length + 1) (fun g s7 s8 wr => ∃ (i : Nat) (x : Int), (1 ≤ i ∧ i ≤ L.length) ∧ i + g = L.length + 2 ∧ s8 = .int .i64 (i : Int) ∧ s7 = .int .i64 x ∧ CM.IsMin (L.take i) n d x ∧ (0 ≤ x ∧ x ≤ 2147483747000000000) ∧ Below w.heap.size w wr)
  case atStart => exact ⟨1, U + V, by omega, by omega, rfl, by first | rfl | simp, HF.out, by omega, by (repeat' (first | (with_reducible exact Below.refl _ _) | (with_reducible assumption) | (with_reducible apply Below.setCell) | (with_reducible apply Below.alloc) | (with_reducible apply Below.drew) | (with_reducible apply below_drewN) | (with_reducible refine Below.trans ?_ (Below.mono (by assumption) ?_)) | omega | (simp; done) | (simp; omega)))⟩
  case round =>
    obtain ⟨i, x, ⟨hi1, hi2⟩, hk, rfl, rfl, hx, ⟨hx0, hx1⟩, hB⟩ := hrel
    have HK := hidd hk
    have HX := hidd hx
    have HB := hidd hB
    clear hk hx hB g1 g2 g3 g4 g5
    by_cases hlt : i < L.length
    · obtain ⟨ad', e', hb', y0, y1⟩ := (HA.out.keep HB.out).send i hlt
      obtain rfl : ad = ad' := by injection e'
      rw [(av_at hlt).1] at y0
      rw [(av_at hlt).2] at y1
      have hst := HSt.out i hlt x HX.out
      rw [HV.out] at hst
      obtain ⟨⟨p0, p1⟩, p2, p3⟩ := HBD.out i hlt
      have g1 := wrap_both (x := SM.av L i * d) (by omega) (by omega)
      have g2 := wrap_both (x := SM.sv L i * n) (by omega) (by omega)
      have hin2 : (i : Int) < (L.length : Int) := by omega
      have hi0 : (0 : Int) ≤ (i : Int) := by omega
      have hj : IntKind.i64.wrap ((i : Int) + 1) = (i : Int) + 1 := IntWalk.i64_in _ (by omega)
      obtain ⟨U', hU⟩ : ∃ U', SM.av L i * d = U' := ⟨_, rfl⟩
      obtain ⟨V', hV⟩ : ∃ V', SM.sv L i * n = V' := ⟨_, rfl⟩
      rw [hU] at p0 p1 hst
      rw [hV] at p2 p3 hst
      obtain ⟨g3, g4⟩ := g1
      obtain ⟨g5, g6⟩ := g2
      have h3 : IntKind.i64.wrap (SM.av L i * d) = U' := g3.trans hU
      have h4 : wrap64 (SM.av L i * d) = U' := g4.trans hU
      have h5 : IntKind.i64.wrap (SM.sv L i * n) = V' := g5.trans hV
      have h6 : wrap64 (SM.sv L i * n) = V' := g6.trans hV
      have h7 : IntKind.i64.wrap (U' + V') = U' + V' := IntWalk.i64_in _ (by omega)
      have HST := hidd hst
      clear e' hst hb' g3 g4 g5 g6 hU hV
      generalize SM.av L i = b0 at *
      generalize SM.sv L i = b1 at *
      by_cases hlow : U' + V' < x
      · have hst2 := HST.out
        rw [if_pos hlow] at hst2
        have HST2 := hidd hst2
        clear hst2 HST
        go_wp2_with fail
        go_quiet (fail)
        go_wp2_with fail
        have hk := HK.out
        go_roundg (gk - 1)
        case measure => omega
        case rel => exact ⟨i + 1, U' + V', by omega, by omega, by go_num, by first | rfl | simp, HST2.out, by omega, by have := HB.out; (repeat' (first | (with_reducible exact Below.refl _ _) | (with_reducible assumption) | (with_reducible apply Below.setCell) | (with_reducible apply Below.alloc) | (with_reducible apply Below.drew) | (with_reducible apply below_drewN) | (with_reducible refine Below.trans ?_ (Below.mono (by assumption) ?_)) | omega | (simp; done) | (simp; omega)))⟩
      · have hst2 := HST.out
        rw [if_neg hlow] at hst2
        have HST2 := hidd hst2
        clear hst2 HST
        go_wp2_with fail
        go_quiet (fail)
        go_wp2_with fail
        have hk := HK.out
        go_roundg (gk - 1)
        case measure => omega
        case rel => exact ⟨i + 1, x, by omega, by omega, by go_num, rfl, HST2.out, by omega, by have := HB.out; (repeat' (first | (with_reducible exact Below.refl _ _) | (with_reducible assumption) | (with_reducible apply Below.setCell) | (with_reducible apply Below.alloc) | (with_reducible apply Below.drew) | (with_reducible apply below_drewN) | (with_reducible refine Below.trans ?_ (Below.mono (by assumption) ?_)) | omega | (simp; done) | (simp; omega)))⟩
    · obtain rfl : i = L.length := by omega
      go_wp2_with fail
      go_ret
      refine ⟨_, rfl, ?_, HB.out⟩
      have := HX.out
      rwa [List.take_length] at this
end Go.Proofs.Ytpgaklfgbioocaa

namespace Go.Proofs.Ytpgaklfgbioocaa
set_option linter.unusedVariables false
open Go.RowKit Go.Proofs.Ytpgaklfgbioocaa.RowK

/-- how high line i is. -/
def hgt (L : List (Int × Int)) (t : Int) (i : Nat) : Int := SM.av L i + SM.sv L i * t
/-- is line i still there so many ticks later. -/
def laterB (L : List (Int × Int)) (t : Int) (i : Nat) : Bool := decide (i + 1 = L.length) || decide (hgt L t i < hgt L t (i + 1))
def kp (L : List (Int × Int)) (t : Int) : Nat → List (Int × Int)
  | 0 => []
  | k + 1 => if laterB L t k then kp L t k ++ [(SM.av L k, SM.sv L k)] else kp L t k
def laterL (L : List (Int × Int)) (t : Int) : List (Int × Int) := (kp L t L.length).map fun x => (x.1 + x.2 * t, x.2)
set_option maxRecDepth 100000 in
set_option maxHeartbeats 4000000 in
theorem later1_any (b1 b2 : Nat) (A : Option Addr) (L : List (Int × Int)) (c : Nat) (t : Int) (i : Nat) (hi : i < L.length) (hL : L.length ≤ 1000000) (hm : MayAll L) (t0 : 0 ≤ t) (t1 : t ≤ 2147483647) (w : World)
    (h1 : w.cell? ⟨b1, 0, none⟩ = some (.slice A L.length c)) (h2 : w.cell? ⟨b2, 0, none⟩ = some (.int .i64 t)) (hb1 : b1 < w.heap.size) (hb2 : b2 < w.heap.size) (hA : Lie sendV 2 w w.heap.size A L) :
    Calls Try.prog 32 #[.int .i64 i, .pointer (some ⟨b1, 0, none⟩), .pointer (some ⟨b2, 0, none⟩)] w fun e w' => e = .returned (.bool (laterB L t i)) ∧ Below w.heap.size w w' := by
  obtain ⟨m, hm1⟩ : ∃ m, L.length = m + 1 := ⟨L.length - 1, by omega⟩
  have e1 : IntKind.i64.wrap ((m : Int) + 1 - 1) = (m : Int) := by rw [IntWalk.i64_in _ (by omega)]; omega
  have e2 : IntKind.i64.wrap (m : Int) = (m : Int) := IntWalk.i64_in _ (by omega)
  have hh := fun j (hj : j < L.length) W => by
    have h := mayB_iff (hm j hj)
    simp only at h
    exact height_any (SM.av L j) (SM.sv L j) t h.1 h.2.1 h.2.2.1 h.2.2.2 t0 t1 W
  by_cases him : i = m
  · have hv : laterB L t i = true := by unfold laterB; rw [decide_eq_true (by omega : i + 1 = L.length)]; rfl
    rw [hv]
    subst him
    rw [hm1] at h1
    have hl : (((i + 1 : Nat) : Int)) = (i : Int) + 1 := by omega
    clear hh hv hA hm
    go_enter Try.func32, Try.ntmps32
    go_wp2_with fail
    go_quiet (fail)
    go_wp2_with fail
    go_ret
    exact ⟨by simp, by (repeat' (first | (with_reducible exact Below.refl _ _) | (with_reducible assumption) | (with_reducible apply Below.setCell) | (with_reducible apply Below.alloc) | (with_reducible apply Below.drew) | (with_reducible apply below_drewN) | (with_reducible refine Below.trans ?_ (Below.mono (by assumption) ?_)) | omega | (simp; done) | (simp; omega)))⟩
  · obtain ⟨ad, rfl, hab, x0, x1⟩ := hA.send i hi
    obtain ⟨ad', e', _, y0, y1⟩ := hA.send (i + 1) (by omega)
    obtain rfl : ad = ad' := by injection e'
    rw [(av_at hi).1] at x0
    rw [(av_at hi).2] at x1
    rw [(av_at (show i + 1 < L.length by omega)).1] at y0
    rw [(av_at (show i + 1 < L.length by omega)).2] at y1
    have hv : laterB L t i = decide (hgt L t i < hgt L t (i + 1)) := by unfold laterB; rw [decide_eq_false (by omega : ¬ i + 1 = L.length)]; rfl
    rw [hv]
    have c1 := hidd (hh i hi)
    have c2 := hidd (hh (i + 1) (by omega))
    have f1 : SM.av L i + SM.sv L i * t = hgt L t i := rfl
    have f2 : SM.av L (i + 1) + SM.sv L (i + 1) * t = hgt L t (i + 1) := rfl
    rw [f1] at c1
    rw [f2] at c2
    have hab' : (ad.add (i * 2)).block = ad.block := block_of_add _ _
    have hab2 : (ad.add ((i + 1) * 2)).block = ad.block := block_of_add _ _
    have hkp : ∀ w', Below w.heap.size w w' → w'.cell? ⟨b1, 0, none⟩ = some (.slice (some ad) (m + 1 : Nat) c) ∧ w'.cell? ⟨b2, 0, none⟩ = some (.int .i64 t) ∧ w'.cell? (ad.add (i * 2)) = some (.int .i64 (SM.av L i)) ∧ w'.cell? ⟨(ad.add (i * 2)).block, (ad.add (i * 2)).off + 1, none⟩ = some (.int .i64 (SM.sv L i)) ∧ w'.cell? (ad.add ((i + 1) * 2)) = some (.int .i64 (SM.av L (i + 1))) ∧ w'.cell? ⟨(ad.add ((i + 1) * 2)).block, (ad.add ((i + 1) * 2)).off + 1, none⟩ = some (.int .i64 (SM.sv L (i + 1))) := fun w' hb =>
      ⟨(hb.cell (p := ⟨b1, 0, none⟩) hb1).trans (hm1 ▸ h1), (hb.cell (p := ⟨b2, 0, none⟩) hb2).trans h2, (hb.cell (by rw [hab']; omega)).trans x0, (hb.cell (p := ⟨(ad.add (i * 2)).block, _, none⟩) (by show (ad.add (i * 2)).block < _; rw [hab']; omega)).trans x1, (hb.cell (by rw [hab2]; omega)).trans y0, (hb.cell (p := ⟨(ad.add ((i + 1) * 2)).block, _, none⟩) (by show (ad.add ((i + 1) * 2)).block < _; rw [hab2]; omega)).trans y1⟩
    have KEEP := hidd hkp
    have hi0 : (0 : Int) ≤ (i : Int) := by omega
    have hi1 : (i : Int) < (m : Int) + 1 := by omega
    have hi2 : (i : Int) + 1 < (m : Int) + 1 := by omega
    have hi3 : IntKind.i64.wrap ((i : Int) + 1) = (i : Int) + 1 := IntWalk.i64_in _ (by omega)
    have hi4 : (i : Int) < (m : Int) := by omega
    have hi5 : (0 : Int) ≤ (i : Int) + 1 := by omega
    have hi6 : ((i : Int) + 1).toNat = i + 1 := by omega
    have hne : ((i : Int) == (m : Int)) = false := beq_eq_false_iff_ne.2 (by omega)
    clear hkp hh hv f1 f2 e' hab hab' hab2 x0 x1 y0 y1 h1 h2 hA hm him hb1 hb2
    generalize hgt L t i = H1 at *
    generalize hgt L t (i + 1) = H2 at *
    generalize SM.av L i = a0 at *
    generalize SM.sv L i = a1 at *
    generalize SM.av L (i + 1) = b0 at *
    generalize SM.sv L (i + 1) = b1' at *
    clear hi hm1 hL
    go_enter Try.func32, Try.ntmps32
    go_wp2_with fail
    go_region_held3 (fun w' => w'.cell? ⟨b1, 0, none⟩ = some (.slice (some ad) (m + 1 : Nat) c) ∧ w'.cell? ⟨b2, 0, none⟩ = some (.int .i64 t) ∧ w'.cell? (ad.add (i * 2)) = some (.int .i64 a0) ∧ w'.cell? ⟨(ad.add (i * 2)).block, (ad.add (i * 2)).off + 1, none⟩ = some (.int .i64 a1) ∧ w'.cell? (ad.add ((i + 1) * 2)) = some (.int .i64 b0) ∧ w'.cell? ⟨(ad.add ((i + 1) * 2)).block, (ad.add ((i + 1) * 2)).off + 1, none⟩ = some (.int .i64 b1'))
      ((first | exact KEEP.out _ cumB | exact KEEP.out _ cumA | exact KEEP.out _ (Below.drew (Below.refl _ _)) | exact KEEP.out _ (Below.refl _ _)))
      ((first
        | (go_at_call_of 28 (Value.agg #[Value.int IntKind.i64 a0, Value.int IntKind.i64 a1]); refine (c1.out _).mono ?_; rintro E wa ⟨rfl, ha⟩; have cumA : Below w.heap.size w wa := (by first | exact below_step cumB ha | exact below_step (Below.drew (Below.refl _ _)) ha | exact below_step (Below.refl _ _) ha))
        | (go_at_call_of 28 (Value.agg #[Value.int IntKind.i64 b0, Value.int IntKind.i64 b1']); refine (c2.out _).mono ?_; rintro E wb ⟨rfl, hb⟩; have cumB : Below w.heap.size w wb := (by first | exact below_step cumA hb | exact below_step (Below.drew (Below.refl _ _)) hb | exact below_step (Below.refl _ _) hb))))
    all_goals go_wp2_with fail
    all_goals go_ret
    all_goals exact ⟨rfl, cumB⟩
theorem kp_len (L : List (Int × Int)) (t : Int) : ∀ k, (kp L t k).length ≤ k
  | 0 => by simp [kp]
  | k + 1 => by
    have := kp_len L t k
    unfold kp
    split
    · simp; omega
    · omega
set_option maxRecDepth 100000 in
set_option maxHeartbeats 4000000 in
theorem kept_any (b1 b2 : Nat) (A : Option Addr) (L : List (Int × Int)) (c : Nat) (t : Int) (hL : L.length ≤ 1000000) (hm : MayAll L) (t0 : 0 ≤ t) (t1 : t ≤ 2147483647) (w : World)
    (h1 : w.cell? ⟨b1, 0, none⟩ = some (.slice A L.length c)) (h2 : w.cell? ⟨b2, 0, none⟩ = some (.int .i64 t)) (hb1 : b1 < w.heap.size) (hb2 : b2 < w.heap.size) (hA : Lie sendV 2 w w.heap.size A L) :
    Calls Try.prog 31 #[.slice A L.length c, .func (.func 32) #[] #[.pointer (some ⟨b1, 0, none⟩), .pointer (some ⟨b2, 0, none⟩)]] w fun e w' => ∃ v, e = .returned v ∧ OwnL sendV 2 w' w.heap.size 44 v (kp L t L.length) ∧ Below w.heap.size w w' := by
  obtain ⟨i0, hi, hz0, hz1, hz2⟩ := info_parts lineInfo
  have HA := hidd hA
  have cl := hidd (fun (i : Nat) (hi : i < L.length) (W : World) (hW : Below w.heap.size w W) => later1_any b1 b2 A L c t i hi hL hm t0 t1 W ((hW.cell (p := ⟨b1, 0, none⟩) hb1).trans h1) ((hW.cell (p := ⟨b2, 0, none⟩) hb2).trans h2) (Nat.lt_of_lt_of_le hb1 hW.size) (Nat.lt_of_lt_of_le hb2 hW.size) (hA.below hW))
  clear hA h1 h2 hm
  go_enter Try.func31, Try.ntmps31
  go_wp2_with fail
  go_loopg [5, 10] (L.length + 2) (fun g s5 s10 wr => ∃ i : Nat, i ≤ L.length ∧ i + g = L.length + 2 ∧ s10 = .int .i64 (i : Int) ∧ OwnL sendV 2 wr w.heap.size 44 s5 (kp L t i) ∧ Below w.heap.size w wr)
  case atStart => exact ⟨0, by omega, by omega, rfl, OwnL.nil _ _ _, Below.refl _ _⟩
  case round =>
    obtain ⟨i, hi1, hg, rfl, hO, hB⟩ := hrel
    have HG := hidd hg
    have HO := hidd hO
    have HB := hidd hB
    clear hg hO hB
    by_cases hin : i < L.length
    · have hin2 : (i : Int) < (L.length : Int) := by omega
      have hi0 : (0 : Int) ≤ (i : Int) := by omega
      obtain ⟨ad, rfl, ha, x0, x1⟩ := (HA.out.below HB.out).send i hin
      rw [(av_at hin).1] at x0
      rw [(av_at hin).2] at x1
      have hkl := kp_len L t i
      have hst : kp L t (i + 1) = if laterB L t i then kp L t i ++ [(SM.av L i, SM.sv L i)] else kp L t i := rfl
      have HST := hidd hst
      have ck := hidd (fun W hW => cl.out i hin W hW)
      obtain ⟨M, hM⟩ : ∃ M, laterB L t i = M := ⟨_, rfl⟩
      rw [hM] at ck HST
      clear hM hst
      have HBX := hidd (LineBox.new wr 44 (SM.av L i) (SM.sv L i))
      generalize SM.av L i = a0 at *
      generalize SM.sv L i = a1 at *
      have hBn := hidd (below_new HB.out (.cells #[.int .i64 a0, .int .i64 a1] 44))
      go_wp2_with fail
      refine (ck.out _ hBn.out).mono ?_
      rintro e w1 ⟨rfl, hb1'⟩
      have hX := HBX.out.step hb1'
      obtain ⟨hx9, z0, z1⟩ := hX
      have hB1 := hidd (below_step hBn.out hb1')
      have hO1 := hidd ((HO.out.alloc (.cells #[.int .i64 a0, .int .i64 a1] 44)).below hb1')
      clear hb1' x0 x1
      cases M
      · go_wp2_with fail
        have hg := HG.out
        go_roundg (gk - 1)
        case measure => omega
        case rel => exact ⟨i + 1, by omega, by omega, by go_num, by rw [HST.out]; exact hO1.out, hB1.out⟩
      · have hkl2 : (kp L t i).length ≤ 1000000 := by omega
        go_wp2_with (at_builtin; refine wpList_append_some (by rfl) (.tmp 18) (.tmp 20) _ (by rfl) w.heap.size 44 i0 _ 2 16 Try.underlying24 hi hz0 hz1 hz2 rfl (by omega) _ _ _ (by rfl) (World.ownsRow.alloc hO1.out _) (some ⟨_, 0, none⟩) 1 1 [.int .i64 a0, .int .i64 a1] (by rfl) (by rfl) (fun _ => ⟨_, rfl, World.news_of_block (cs := #[.int .i64 a0, .int .i64 a1]) (t := 44) (fr := (0, 0)) (heap_alloc_new _ _)⟩) (by simp [Value.oneCell']) (by simp only [maxLen]; omega) (by omega) (by have := hB1.out.size; first | omega | (simp; omega)) ?_; intro v1 wa hown1 hgrow1 hat1)
        have hB4 : Below w.heap.size w wa := Below.grown (below_new hB1.out _) hgrow1 (by have := hB1.out.size; first | omega | (simp; omega)) (fun k hk => (OwnL.lt hO1.out k hk).1)
        have hO4 : OwnL sendV 2 wa w.heap.size 44 v1 (kp L t (i + 1)) := by rw [HST.out]; exact OwnL.snoc (f := sendV) (L := kp L t i) (x := (a0, a1)) hown1 rfl rfl
        have hg := HG.out
        have hB4' := hidd hB4
        have hO4' := hidd hO4
        clear hB4 hO4 hown1 hgrow1 hat1
        go_wp2_with fail
        go_roundg (gk - 1)
        case measure => omega
        case rel => exact ⟨i + 1, by omega, by omega, by go_num, hO4'.out, hB4'.out⟩
    · obtain rfl : i = L.length := by omega
      go_wp2_with fail
      go_ret
      exact ⟨_, rfl, HO.out, HB.out⟩
end Go.Proofs.Ytpgaklfgbioocaa

namespace Go.Proofs.Ytpgaklfgbioocaa
set_option linter.unusedVariables false
open Go.RowKit Go.Proofs.Ytpgaklfgbioocaa.RowK

def shf (t : Int) (x : Int × Int) : Int × Int := (x.1 + x.2 * t, x.2)
theorem laterL_eq (L : List (Int × Int)) (t : Int) : laterL L t = (kp L t L.length).map (shf t) := rfl
/-- the first q of them later. -/
def lm (K : List (Int × Int)) (t : Int) (q : Nat) : List (Int × Int) := (K.take q).map (shf t) ++ K.drop q
theorem lm_len (K : List (Int × Int)) (t : Int) (q : Nat) : (lm K t q).length = K.length := by simp [lm]; omega
theorem lm_zero (K : List (Int × Int)) (t : Int) : lm K t 0 = K := by simp [lm]
theorem lm_all (K : List (Int × Int)) (t : Int) : lm K t K.length = K.map (shf t) := by simp [lm]
theorem lm_at {K : List (Int × Int)} {t : Int} {q : Nat} (h : q < K.length) : SM.av (lm K t q) q = SM.av K q ∧ SM.sv (lm K t q) q = SM.sv K q := by
  have e : (lm K t q)[q]? = K[q]? := by
    unfold lm
    rw [List.getElem?_append_right (by simp; omega)]
    simp [Nat.min_eq_left (Nat.le_of_lt h)]
  unfold SM.av SM.sv
  rw [List.getD_eq_getElem?_getD, List.getD_eq_getElem?_getD, e]
  exact ⟨rfl, rfl⟩
theorem lm_set {K : List (Int × Int)} {t : Int} {q : Nat} (h : q < K.length) : (lm K t q).set q (SM.av K q + SM.sv K q * t, SM.sv K q) = lm K t (q + 1) := by
  unfold lm
  have hl : ((K.take q).map (shf t)).length = q := by simp; omega
  rw [List.set_append_right _ _ (by omega), hl, Nat.sub_self, List.drop_eq_getElem_cons h, List.set_cons_zero, List.take_add_one, List.getElem?_eq_getElem h, List.map_append]
  have e : shf t K[q] = (SM.av K q + SM.sv K q * t, SM.sv K q) := by unfold shf; rw [(av_at h).1, (av_at h).2]
  simp [e]
theorem row_set2 : ∀ (L : List (Int × Int)) (i : Nat) (x : Int), i < L.length → rowOf sendV (L.set i (x, SM.sv L i)) = (rowOf sendV L).set (i * 2) (.int .i64 x)
  | [], i, x, h => by simp at h
  | y :: L, 0, x, _ => by simp [rowOf, sendV, SM.sv]
  | y :: L, i + 1, x, h => by
    have ih := row_set2 L i x (by simpa using h)
    have e : SM.sv (y :: L) (i + 1) = SM.sv L i := by simp [SM.sv]
    rw [e, List.set_cons_succ]
    simp only [rowOf, List.flatMap_cons] at *
    rw [ih, List.set_append_right _ _ (by rw [sendV_len]; omega), sendV_len]
    congr 2
    omega
theorem OwnL.set2 {w : World} {base : Nat} {e : TypeId} {g cap n : Nat} {L : List (Int × Int)} (hn : L.length = n) (h : OwnL sendV 2 w base e (.slice (some ⟨g, 0, none⟩) n cap) L) {i : Nat} (hi : i < n) (x : Int) :
    OwnL sendV 2 (w.setCell ⟨g, i * 2, none⟩ (.int .i64 x)) base e (.slice (some ⟨g, 0, none⟩) n cap) (L.set i (x, SM.sv L i)) ∧ w.grownBy (w.setCell ⟨g, i * 2, none⟩ (.int .i64 x)) (some g) := by
  subst hn
  obtain ⟨h1, h2⟩ := World.ownsRow.stored (g := g) h (i * 2) (.int .i64 x)
  rw [← row_set2 L i x hi] at h1
  refine ⟨?_, h2⟩
  unfold OwnL
  rw [List.length_set]
  exact h1
theorem kp_mem {L : List (Int × Int)} {t : Int} : ∀ k, k ≤ L.length → ∀ x ∈ kp L t k, x ∈ L
  | 0, _, x, hx => by simp [kp] at hx
  | k + 1, hk, x, hx => by
    unfold kp at hx
    split at hx
    · rcases List.mem_append.1 hx with h | h
      · exact kp_mem k (by omega) x h
      · have : x = (SM.av L k, SM.sv L k) := by simpa using h
        rw [this, ← (av_at (show k < L.length by omega)).1, ← (av_at (show k < L.length by omega)).2]
        exact List.getElem_mem _
    · exact kp_mem k (by omega) x hx
theorem kp_pos {L : List (Int × Int)} {t : Int} (h : 0 < L.length) : 0 < (kp L t L.length).length := by
  obtain ⟨m, hm⟩ : ∃ m, L.length = m + 1 := ⟨L.length - 1, by omega⟩
  have hb : laterB L t m = true := by unfold laterB; rw [decide_eq_true (by omega : m + 1 = L.length)]; rfl
  rw [hm]
  unfold kp
  rw [if_pos hb]
  simp
theorem kp_may {L : List (Int × Int)} {t : Int} (hm : MayAll L) : MayAll (kp L t L.length) := fun i hi => by
  have h := kp_mem (t := t) L.length (Nat.le_refl _) _ (List.getElem_mem hi)
  obtain ⟨k, hk, e⟩ := List.mem_iff_getElem.1 h
  have := hm k hk
  rw [← (av_at hk).1, ← (av_at hk).2, e, (av_at hi).1, (av_at hi).2] at this
  exact this
set_option maxRecDepth 100000 in
set_option maxHeartbeats 4000000 in
theorem later_yes (ok : Bool) (A : Option Addr) (L : List (Int × Int)) (c : Nat) (t : Int) (hL : L.length ≤ 1000000) (w : World) (hA : Lie sendV 2 w w.heap.size A L) (hr : RgtC L) (ht : tickB t = true) (hok : ok = true ↔ boundP (laterL L t)) :
    Calls Try.prog 18 #[.slice A L.length c, .int .i64 t] w (MakeEnd L (if ok then laterL L t else []) (if ok then 0 else 3) w) := by
  obtain ⟨W0, hW0⟩ : ∃ W0, (w.alloc (.cells #[.slice A L.length c] 25)).alloc (.cells #[.int .i64 t] 2) = W0 := ⟨_, rfl⟩
  have hb0 : Below w.heap.size w W0 := hW0 ▸ below_new (below_new (Below.refl w.heap.size w) (.cells #[.slice A L.length c] 25)) (.cells #[.int .i64 t] 2)
  have hsz : W0.heap.size = w.heap.size + 2 := by rw [← hW0]; simp
  have hx1 : W0.cell? ⟨w.heap.size, 0, none⟩ = some (.slice A L.length c) := by rw [← hW0]; simp [go_sem]
  have hx2 : W0.cell? ⟨w.heap.size + 1, 0, none⟩ = some (.int .i64 t) := by rw [← hW0]; simp [go_sem]
  obtain ⟨ht0, ht1⟩ : 0 ≤ t ∧ t ≤ 2147483647 := of_decide_eq_true ht
  have HW0 := hidd hW0
  have hA0 := hA.below hb0
  have cn := hidd (isNone_any A L c hL W0 hA0)
  have ct := hidd (fun W => curveTick_any t W)
  rw [ht] at ct
  have ckp := hidd (fun W (hW : Below W0.heap.size W0 W) => kept_any w.heap.size (w.heap.size + 1) A L c t hL hr.2.1 ht0 ht1 W ((hW.cell (p := ⟨w.heap.size, 0, none⟩) (by show w.heap.size < _; omega)).trans hx1) ((hW.cell (p := ⟨w.heap.size + 1, 0, none⟩) (by show w.heap.size + 1 < _; omega)).trans hx2) (by have := hW.size; omega) (by have := hW.size; omega) (hA0.below hW))
  have hkpos := kp_pos (L := L) (t := t) (by have := hr.1; omega)
  have hklen := kp_len L t L.length
  have hkmay := kp_may (t := t) hr.2.1
  have HLE := hidd (laterL_eq L t)
  have HR := hidd hr
  have HX1 := hidd hx1
  have HX2 := hidd hx2
  have HB0 := hidd hb0
  have HOK := hidd hok
  have hL32 : L.length ≤ 32 := hr.1.2
  clear hA hA0 hr ht hok hx1 hx2 hb0
  generalize kp L t L.length = K at *
  have hh := hidd (fun j (hj : j < K.length) W => by
    have h := mayB_iff (hkmay j hj)
    simp only at h
    exact height_any (SM.av K j) (SM.sv K j) t h.1 h.2.1 h.2.2.1 h.2.2.2 ht0 ht1 W)
  have HKM := hidd hkmay
  clear hkmay
  unfold MakeEnd
  go_enter Try.func18, Try.ntmps18
  have hx1 := HX1.out
  have hx2 := HX2.out
  go_wp2_with fail
  refine cn.out.mono ?_
  rintro e w1 ⟨R, rfl, hR, hb1⟩
  obtain rfl : R = false := by cases R; rfl; exact absurd HR.out (hR.1 rfl)
  have z1 := (hb1.cell (p := ⟨w.heap.size, 0, none⟩) (by show w.heap.size < _; omega)).trans hx1
  have z2 := (hb1.cell (p := ⟨w.heap.size + 1, 0, none⟩) (by show w.heap.size + 1 < _; omega)).trans hx2
  have HB1 := hidd hb1
  clear hR hb1 hx1 hx2
  go_wp2_with fail
  refine (ct.out _).mono ?_
  rintro e w2 ⟨rfl, rfl⟩
  go_wp2_with fail
  refine (ckp.out _ HB1.out).mono ?_
  rintro e w2 ⟨v, rfl, hO, hb2⟩
  obtain ⟨g, cap, rfl, ⟨hg0, hg1⟩, ⟨hc0, hc1⟩, hcl⟩ := hO.form hkpos
  have HB2 := hidd (below_step HB1.out hb2)
  have hsz1 := HB1.out.size
  have hsz2 := HB2.out.size
  have HO := hidd hO
  have hgn1 : ¬ w.heap.size = g := by omega
  have hgn2 : ¬ w.heap.size + 1 = g := by omega
  have hgn3 : ¬ g = w.heap.size := by omega
  have hgn4 : ¬ g = w.heap.size + 1 := by omega
  clear hO hb2 hcl z1 z2
  go_wp2_with fail
  go_loopg [21] (K.length + 2) (fun gg s21 wr => ∃ q : Nat, q ≤ K.length ∧ q + gg = K.length + 2 ∧ s21 = .int .i64 (q : Int) ∧ OwnL sendV 2 wr w1.heap.size 44 (.slice (some ⟨g, 0, none⟩) K.length cap) (lm K t q) ∧ Below W0.heap.size W0 wr)
  case atStart => exact ⟨0, by omega, by omega, rfl, by rw [lm_zero]; exact HO.out, HB2.out⟩
  case round =>
    obtain ⟨q, hq, hgk, rfl, hO, hB⟩ := hrel
    have HG := hidd hgk
    clear hgk
    by_cases hin : q < K.length
    · have hin2 : (q : Int) < (K.length : Int) := by omega
      have hi0 : (0 : Int) ≤ (q : Int) := by omega
      obtain ⟨g', cap', e', ⟨_, hg2⟩, _, hcl⟩ := OwnL.form (L := lm K t q) (v := .slice (some ⟨g, 0, none⟩) K.length cap) hO (by rw [lm_len]; exact hkpos)
      obtain rfl : g = g' := by injection e' with e' _ _; injection e' with e'; injection e'
      obtain ⟨y0, y1⟩ := hcl q (by rw [lm_len]; exact hin)
      rw [(lm_at hin).1] at y0
      rw [(lm_at hin).2] at y1
      have z2 : wr.cell? ⟨w.heap.size + 1, 0, none⟩ = some (.int .i64 t) := (hB.cell (p := ⟨w.heap.size + 1, 0, none⟩) (by show w.heap.size + 1 < _; omega)).trans HX2.out
      have ch := hidd (fun W => hh.out q hin W)
      have HSET := hidd (lm_set (t := t) hin)
      have HSV := hidd (lm_at (t := t) hin).2
      have HO2 := hidd hO
      have HB3 := hidd hB
      have hwz := hB.size
      clear hcl e' hO hB
      obtain ⟨Y, hY⟩ : ∃ Y, SM.av K q + SM.sv K q * t = Y := ⟨_, rfl⟩
      rw [hY] at ch HSET
      clear hY
      generalize SM.av K q = a0 at *
      generalize SM.sv K q = a1 at *
      have hbn := hidd (below_new (Below.refl wr.heap.size wr) (.cells #[.int .i64 a0, .int .i64 a1] 44))
      have hz3 : (wr.alloc (.cells #[.int .i64 a0, .int .i64 a1] 44)).cell? ⟨w.heap.size + 1, 0, none⟩ = some (.int .i64 t) := (hbn.out.cell (p := ⟨w.heap.size + 1, 0, none⟩) (by show w.heap.size + 1 < _; omega)).trans z2
      go_wp2_with fail
      refine (ch.out _).mono ?_
      rintro e w3 ⟨rfl, hb3⟩
      have hb4 := below_step hbn.out hb3
      have hO5 := HO2.out.below hb4
      have hO6 : w3.ownsRow w1.heap.size 44 2 (.slice (some ⟨g, 0, none⟩) K.length cap) K.length (rowOf sendV (lm K t q)) := by have h := hO5; unfold OwnL at h; rwa [lm_len] at h
      have hfz := World.ownsRow.frozenAt (g := g) hO6 (q * 2)
      have hcz : w3.cell? ⟨g, q * 2, none⟩ = some (.int .i64 a0) := (hb4.cell (p := ⟨g, q * 2, none⟩) hg2).trans y0
      obtain ⟨hs1, hs2⟩ := OwnL.set2 (lm_len K t q) hO5 hin Y
      rw [HSV.out, HSET.out] at hs1
      have HS1 := hidd hs1
      have HB6 := hidd (Below.setCell (p := ⟨g, q * 2, none⟩) (HB3.out.trans (hb4.mono (by omega))) (by show W0.heap.size ≤ g; omega) (.int .i64 Y))
      clear hs1 hs2 hO5 hO6 hb3 hb4 y0 y1 z2 hz3
      go_wp2_with fail
      have hgk := HG.out
      go_roundg (gk - 1)
      case measure => omega
      case rel => exact ⟨q + 1, by omega, by omega, by go_num, HS1.out, HB6.out⟩
    · obtain rfl : q = K.length := by omega
      rw [lm_all, ← HLE.out] at hO
      obtain ⟨A2, c2, e2, _, _, hl2⟩ := hO.lie sendV_len
      have hll : (laterL L t).length = K.length := by rw [HLE.out]; simp
      rw [hll] at e2
      obtain ⟨e3, e4⟩ : A2 = some ⟨g, 0, none⟩ ∧ c2 = cap := by injection e2 with e2 _ e5; exact ⟨e2.symm, e5.symm⟩
      subst e3 e4
      have cb := hidd (bounded_any (some ⟨g, 0, none⟩) (laterL L t) c2 (by omega) (by omega) wr hl2)
      rw [hll] at cb
      have HO3 := hidd (hO.base (by omega : w.heap.size ≤ w1.heap.size))
      have HB3 := hidd (HB0.out.trans (hB.mono HB0.out.size))
      clear hl2 e2 hO hB hll
      cases ok
      · have cb2 := hidd (cb.out.2 (fun h => absurd (HOK.out.2 h) Bool.false_ne_true))
        clear cb
        go_wp2_with fail
        refine cb2.out.mono ?_
        rintro e w3 ⟨rfl, rfl⟩
        go_wp2_with fail
        go_ret2
        exact ⟨_, rfl, OwnL.nil _ _ _, HB3.out⟩
      · have cb2 := hidd (cb.out.1 (HOK.out.1 rfl))
        clear cb
        go_wp2_with fail
        refine cb2.out.mono ?_
        rintro e w3 ⟨rfl, rfl⟩
        go_wp2_with fail
        go_ret2
        exact ⟨_, rfl, HO3.out, HB3.out⟩
end Go.Proofs.Ytpgaklfgbioocaa

namespace Go.Proofs.Ytpgaklfgbioocaa
set_option linter.unusedVariables false
open Go.RowKit Go.Proofs.Ytpgaklfgbioocaa.RowK

theorem lie_lit (w : World) (L : List (Int × Int)) (T : TypeId) (cs : Array Value) (h : cs.toList = rowOf sendV L) : Lie sendV 2 (w.alloc (.cells cs T)) (w.alloc (.cells cs T)).heap.size (some ⟨w.heap.size, 0, none⟩) L := fun _ => by
  refine ⟨_, rfl, by simp, fun i x hx j v hv => ?_⟩
  have h1 := row_at sendV_len L i x hx j v hv
  rw [← h, Array.getElem?_toList] at h1
  rw [add_zero_off]
  have hh : (w.alloc (.cells cs T)).heap[w.heap.size]? = some (.cells cs T) := World.alloc_heap_new w _
  simp only [World.cell?, hh, Option.isSome_none, Bool.false_eq_true, if_false]
  exact h1
theorem lie_lit2 (w : World) (b : Nat) (hb : w.heap.size = b) (L : List (Int × Int)) (T : TypeId) (cs : Array Value) (h : cs.toList = rowOf sendV L) : Lie sendV 2 (w.alloc (.cells cs T)) (w.alloc (.cells cs T)).heap.size (some ⟨b, 0, none⟩) L := by
  subst hb; exact lie_lit w L T cs h
theorem low_rising {l : List (Int × Int)} (h : l.Pairwise (fun a b => CM.le a b = true)) : CM.low l = CM.hull l := by
  unfold CM.low CM.sortL
  rw [List.mergeSort_of_pairwise h]
theorem low4 : CM.low [(0, 5), (10, 1), (2, 5), (4, 3)] = [(0, 5), (4, 3), (10, 1)] := by
  rw [CM.low_mems (m := [(0, 5), (2, 5), (4, 3), (10, 1)]) (by simp) (fun x => by simp only [List.mem_cons, List.not_mem_nil, or_false]; constructor <;> (rintro (h | h | h | h) <;> simp [h])), low_rising (by decide +kernel)]
  decide +kernel
theorem may4 : MayAll [(0, 5), (10, 1), (2, 5), (4, 3)] := by unfold MayAll; decide
theorem rgt3 : RgtC [(0, 5), (4, 3), (10, 1)] := by
  refine ⟨by decide, by unfold MayAll; decide, ?_⟩
  rw [← low4]
  exact CM.low_nrm (by simp)
theorem min3 {x : Int} (h : CM.IsMin [(0, 5), (4, 3), (10, 1)] 3 1 x) : x = 13 := by
  have g : CM.IsMin [(0, 5), (4, 3), (10, 1)] 3 1 13 := ⟨⟨(4, 3), by simp, by decide⟩, fun y hy => by
    simp at hy
    rcases hy with rfl | rfl | rfl <;> decide⟩
  exact h.same g
theorem later3 : laterL [(0, 5), (4, 3), (10, 1)] 2 = [(10, 3), (12, 1)] := by decide +kernel
theorem bound3 : boundP [(10, 3), (12, 1)] := by unfold boundP; decide
theorem low4_len : (CM.low [(0, 5), (10, 1), (2, 5), (4, 3)]).length ≤ 32 := by rw [low4]; decide
set_option maxRecDepth 100000 in
set_option maxHeartbeats 4000000 in
theorem known3_any (w : World) : Calls Try.prog 5 #[] w fun e w' => e = .returned (.bool true) ∧ Below w.heap.size w w' := by
  have cm := hidd (fun (b : Nat) (W : World) (hW : Lie sendV 2 W W.heap.size (some ⟨b, 0, none⟩) [(0, 5), (10, 1), (2, 5), (4, 3)]) => (make_good (some ⟨b, 0, none⟩) [(0, 5), (10, 1), (2, 5), (4, 3)] 4 (by decide) W hW may4 (by decide)).1 low4_len)
  rw [low4] at cm
  have ca := hidd (fun (A : Option Addr) (c : Nat) (hc : 3 ≤ c) (hcm : c ≤ maxLen) (W : World) (hW : Lie sendV 2 W W.heap.size A [(0, 5), (4, 3), (10, 1)]) => curveAt_yes A [(0, 5), (4, 3), (10, 1)] c 3 hc hcm W hW rgt3 (by decide))
  have cl := hidd (fun (A : Option Addr) (c : Nat) (W : World) (hW : Lie sendV 2 W W.heap.size A [(0, 5), (4, 3), (10, 1)]) => later_yes true A [(0, 5), (4, 3), (10, 1)] c 2 (by decide) W hW rgt3 (by decide) (by rw [later3]; exact ⟨fun _ => bound3, fun _ => rfl⟩))
  rw [later3] at cl
  simp only [if_true] at cl
  have cs1 := hidd (fun (A B : Option Addr) (c d : Nat) (W : World) hA hB => same_any A B [(0, 5), (4, 3), (10, 1)] [(0, 5), (4, 3), (10, 1)] c d (by decide) (by decide) W hA hB)
  have cs2 := hidd (fun (A B : Option Addr) (c d : Nat) (W : World) hA hB => same_any A B [(10, 3), (12, 1)] [(10, 3), (12, 1)] c d (by decide) (by decide) W hA hB)
  have hl1 := hidd (lie_lit w [(0, 5), (10, 1), (2, 5), (4, 3)] 44 #[.int .i64 0, .int .i64 5, .int .i64 10, .int .i64 1, .int .i64 2, .int .i64 5, .int .i64 4, .int .i64 3] rfl)
  have hl2 := hidd (fun W => lie_lit W [(0, 5), (4, 3), (10, 1)] 44 #[.int .i64 0, .int .i64 5, .int .i64 4, .int .i64 3, .int .i64 10, .int .i64 1] rfl)
  have hl3 := hidd (fun W b hb => lie_lit2 W b hb [(10, 3), (12, 1)] 44 #[.int .i64 10, .int .i64 3, .int .i64 12, .int .i64 1] rfl)
  unfold MakeEnd at cm cl
  unfold AtEnd at ca
  go_enter Try.func5, Try.ntmps5
  go_wp2_with fail
  refine (cm.out _ _ hl1.out).mono ?_
  rintro e w1 ⟨v, rfl, hO1, hb1⟩
  obtain ⟨A1, c1, rfl, hc10, hc11, hA1⟩ := hO1.lie sendV_len
  have HA1 := hidd hA1
  have HB1 := hidd (below_step (below_new (Below.refl w.heap.size w) _) hb1)
  have HC1 := hidd hc10
  have HC2 := hidd hc11
  clear hO1 hb1 hA1 hc10 hc11
  go_wp2_with fail
  refine (ca.out A1 c1 HC1.out HC2.out _ HA1.out).mono ?_
  rintro e w2 ⟨x, rfl, hx, hb2⟩
  have hx13 := min3 hx
  subst hx13
  have HA2 := hidd (HA1.out.below hb2)
  have HB2 := hidd (below_step HB1.out hb2)
  clear hx hb2
  go_wp2_with fail
  refine (cl.out A1 c1 _ HA2.out).mono ?_
  rintro e w3 ⟨v, rfl, hO3, hb3⟩
  obtain ⟨A3, c3, rfl, _, _, hA3⟩ := hO3.lie sendV_len
  have HA3 := hidd hA3
  have HA4 := hidd (HA2.out.below hb3)
  have HB3 := hidd (below_step HB2.out hb3)
  clear hO3 hb3 hA3
  go_wp2_with fail
  refine (cs1.out A1 _ c1 _ _ (HA4.out.below (below_new (Below.refl _ _) _)) (hl2.out w3)).mono ?_
  rintro e w4 ⟨rfl, q4, rfl⟩
  have HB4 := hidd (below_new HB3.out (.cells #[.int .i64 0, .int .i64 5, .int .i64 4, .int .i64 3, .int .i64 10, .int .i64 1] 44))
  go_wp2_with fail
  refine (cs2.out A3 _ c3 _ _ (HA3.out.below (by (repeat' (first | (with_reducible exact Below.refl _ _) | (with_reducible assumption) | (with_reducible apply Below.setCell) | (with_reducible apply Below.alloc) | (with_reducible apply Below.drew) | (with_reducible apply below_drewN) | (with_reducible refine Below.trans ?_ (Below.mono (by assumption) ?_)) | omega | (simp; done) | (simp; omega))))) (hl3.out _ _ (by first | rfl | simp))).mono ?_
  rintro e w5 ⟨rfl, q5, rfl⟩
  go_wp2_with fail
  go_ret
  exact ⟨by simp, by have := HB3.out; have := this.size; (repeat' (first | (with_reducible exact Below.refl _ _) | (with_reducible assumption) | (with_reducible apply Below.setCell) | (with_reducible apply Below.alloc) | (with_reducible apply Below.drew) | (with_reducible apply below_drewN) | (with_reducible refine Below.trans ?_ (Below.mono (by assumption) ?_)) | omega | (simp; done) | (simp; omega)))⟩
end Go.Proofs.Ytpgaklfgbioocaa

namespace Go.Proofs.Ytpgaklfgbioocaa
set_option linter.unusedVariables false
open Go.RowKit Go.Proofs.Ytpgaklfgbioocaa.RowK

theorem told3_any (A B : Option Addr) (L M : List (Int × Int)) (c d : Nat) (k : Int) (hL : L.length ≤ 1000000) (hM : M.length ≤ 1000000) (w : World) (hA : Lie sendV 2 w w.heap.size A L) (hB : Lie sendV 2 w w.heap.size B M) :
    Calls Try.prog 9 #[.slice A L.length c, .int .i64 k, .slice B M.length d, .int .i64 k] w fun e w' => e = .returned (.bool (decide (L = M))) ∧ ∃ q, w' = w.drewN q := by
  have cs := hidd (same_any A B L M c d hL hM w hA hB)
  clear hA hB
  obtain ⟨T, hT⟩ : ∃ T, decide (L = M) = T := ⟨_, rfl⟩
  rw [hT] at cs
  rw [hT]
  clear hT
  go_enter Try.func9, Try.ntmps9
  go_wp2_with fail
  refine cs.out.mono ?_
  rintro e w1 ⟨rfl, q, rfl⟩
  go_wp2_with fail
  go_ret
  exact ⟨by simp, q, rfl⟩
end Go.Proofs.Ytpgaklfgbioocaa

namespace Go.Proofs.Ytpgaklfgbioocaa
set_option linter.unusedVariables false
open Go.RowKit Go.Proofs.Ytpgaklfgbioocaa.RowK

theorem least_of {P : Nat → Prop} : ∀ n, (∃ i, i ≤ n ∧ P i) → ∃ f, f ≤ n ∧ P f ∧ ∀ i, i < f → ¬ P i
  | 0, ⟨i, hi, hp⟩ => ⟨0, Nat.le_refl _, by
      obtain rfl : i = 0 := by omega
      exact hp, fun j hj => absurd hj (by omega)⟩
  | n + 1, ⟨i, hi, hp⟩ => by
    by_cases hx : ∃ i, i ≤ n ∧ P i
    · obtain ⟨f, h1, h2, h3⟩ := least_of n hx
      exact ⟨f, by omega, h2, h3⟩
    · have hin : i = n + 1 := by
        rcases Nat.lt_or_ge i (n + 1) with h | h
        · exact absurd ⟨i, by omega, hp⟩ hx
        · omega
      subst hin
      exact ⟨n + 1, Nat.le_refl _, hp, fun j hj hpj => hx ⟨j, by omega, hpj⟩⟩
end Go.Proofs.Ytpgaklfgbioocaa

namespace Go.Proofs.Ytpgaklfgbioocaa
set_option linter.unusedVariables false
open Go.RowKit Go.Proofs.Ytpgaklfgbioocaa.RowK

def AllR (cs : List Crv) : Prop := ∀ j (h : j < cs.length), RgtC (cs[j]).2
def IdxNEnd (cs : List Crv) (w : World) (e : Ending) (w' : World) : Prop := ∃ n : Int, e = .returned (.int .i64 n) ∧ (-1 ≤ n ∧ n ≤ 1000000) ∧ (0 ≤ n ↔ ¬ AllR cs) ∧ Below w.heap.size w w'
theorem idxNEnd_of {cs : List Crv} {w : World} (n : Int) (w' : World) (h1 : -1 ≤ n) (h2 : n ≤ 1000000) (h3 : 0 ≤ n ↔ ¬ AllR cs) (hb : Below w.heap.size w w') : IdxNEnd cs w (.returned (.int .i64 n)) w' := ⟨n, rfl, ⟨h1, h2⟩, h3, hb⟩
set_option maxHeartbeats 2000000 in
theorem idxN_any (A : Option Addr) (k : Nat) (cs : List Crv) (hlen : cs.length ≤ 1000000) (hlen2 : ∀ c ∈ cs, c.2.length ≤ 1000000) (w : World) (hC : Curves w w.heap.size A cs) :
    Calls Try.prog 47 #[.slice A cs.length k, .func (.func 26) #[] #[]] w (IdxNEnd cs w) := by
  have HC := hidd hC
  have H2 := hidd hlen2
  have C := hidd (fun A L c W hL hW => isNone_any A L c hL W hW)
  have HID := hidd (idxNEnd_of (cs := cs) (w := w))
  clear hC hlen2
  go_enter Try.func47, Try.ntmps47
  go_wp2_with fail
  go_loopg [8] (cs.length + 2) (fun g s8 wr => ∃ i : Nat, i ≤ cs.length ∧ i + g = cs.length + 2 ∧ s8 = .int .i64 (i : Int) ∧ (∀ j (h : j < cs.length), j < i → RgtC (cs[j]).2) ∧ Below w.heap.size w wr)
  case atStart => exact ⟨0, by omega, by omega, rfl, fun j _ h => absurd h (by omega), Below.refl _ _⟩
  case round =>
    obtain ⟨i, hi1, hg, rfl, hs, hB⟩ := hrel
    have HG := hidd hg
    have HS := hidd hs
    have HB := hidd hB
    clear hg hs hB
    by_cases hin : i < cs.length
    · have hin2 : (i : Int) < (cs.length : Int) := by omega
      have hi0 : (0 : Int) ≤ (i : Int) := by omega
      obtain ⟨ad, rfl, ha, x0⟩ := (HC.out.keep HB.out).at_ i hin
      obtain ⟨A1, k1, e1, hl⟩ := (HC.out.keep HB.out).2 (cs[i]) (List.getElem_mem hin)
      rw [e1] at x0
      have ci := hidd (fun W (hb : Below w.heap.size w W) => C.out A1 (cs[i]).2 k1 W (H2.out _ (List.getElem_mem hin)) (by
        have h := ((HC.out.keep hb).2 (cs[i]) (List.getElem_mem hin))
        obtain ⟨A2, k2, e2, hl2⟩ := h
        rw [e1] at e2
        injection e2 with e3 e4 e5
        subst e3
        exact hl2.more hb.size))
      have hst : RgtC (cs[i]).2 → ∀ j (h : j < cs.length), j < i + 1 → RgtC (cs[j]).2 := fun h j hj k1 => by
        by_cases hk : j = i
        · subst hk; exact h
        · exact HS.out j hj (by omega)
      have hno : ¬ RgtC (cs[i]).2 → ¬ AllR cs := fun h hh => h (hh i hin)
      have HST := hidd hst
      have HNO := hidd hno
      have hBs := HB.out.size
      have hB2 := HB.out
      unfold MayEnd at ci
      obtain ⟨P, hP⟩ : ∃ P : Prop, RgtC (cs[i]).2 = P := ⟨_, rfl⟩
      obtain ⟨n1, hn1⟩ : ∃ n1, (cs[i]).2.length = n1 := ⟨_, rfl⟩
      rw [hP] at ci HST HNO
      rw [hn1] at ci x0
      clear hst hno hP hn1 e1 hl ha
      go_wp2_with fail
      refine (ci.out _ (by (repeat' (first | (with_reducible exact Below.refl _ _) | (with_reducible assumption) | (with_reducible apply Below.setCell) | (with_reducible apply Below.alloc) | (with_reducible apply Below.drew) | (with_reducible apply below_drewN) | (with_reducible refine Below.trans ?_ (Below.mono (by assumption) ?_)) | omega | (simp; done) | (simp; omega))))).mono ?_
      rintro e w2 ⟨R, rfl, hR, hb2⟩
      have HR := hidd hR
      have HB2 := hidd (below_step (show Below w.heap.size w _ by (repeat' (first | (with_reducible exact Below.refl _ _) | (with_reducible assumption) | (with_reducible apply Below.setCell) | (with_reducible apply Below.alloc) | (with_reducible apply Below.drew) | (with_reducible apply below_drewN) | (with_reducible refine Below.trans ?_ (Below.mono (by assumption) ?_)) | omega | (simp; done) | (simp; omega)))) hb2)
      clear hR hb2 hB2 x0
      cases R
      · go_wp2_with fail
        have hg := HG.out
        go_roundg (gk - 1)
        case measure => omega
        case rel => exact ⟨i + 1, by omega, by omega, by go_num, HST.out (Classical.not_not.1 fun h => absurd (HR.out.2 h) Bool.false_ne_true), HB2.out⟩
      · go_wp2_with fail
        go_ret
        exact HID.out _ _ (by omega) (by omega) ⟨fun _ => HNO.out (by first | exact HR.out.1 rfl | exact HR.out.1 trivial), fun _ => by omega⟩ HB2.out
    · have hall : AllR cs := fun j h2 => HS.out j h2 (by omega)
      have HALL := hidd hall
      have hin2 : ¬ (i : Int) < (cs.length : Int) := by omega
      clear hall
      go_wp2_with fail
      go_ret
      exact HID.out _ _ (by omega) (by omega) ⟨fun h => absurd h (by omega), fun h => absurd HALL.out h⟩ HB.out
theorem conN_any (A : Option Addr) (k : Nat) (cs : List Crv) (hlen : cs.length ≤ 1000000) (hlen2 : ∀ c ∈ cs, c.2.length ≤ 1000000) (w : World) (hC : Curves w w.heap.size A cs) :
    Calls Try.prog 33 #[.slice A cs.length k, .func (.func 26) #[] #[]] w (MayEnd (¬ AllR cs) w) := by
  have ci := hidd (idxN_any A k cs hlen hlen2 w hC)
  clear hC hlen2
  unfold MayEnd
  unfold IdxNEnd at ci
  go_enter Try.func33, Try.ntmps33
  go_wp2_with fail
  refine ci.out.mono ?_
  rintro e w1 ⟨n, rfl, h1, h2, hb⟩
  have H2 := hidd h2
  have HB := hidd hb
  clear h2 hb
  by_cases h0 : 0 ≤ n
  · go_wp2_with fail
    go_ret
    exact ⟨true, by simp, ⟨fun _ => H2.out.1 h0, fun _ => rfl⟩, HB.out⟩
  · go_wp2_with fail
    go_ret
    exact ⟨false, by simp; omega, ⟨fun h => absurd h Bool.false_ne_true, fun h => absurd (H2.out.2 h) (by omega)⟩, HB.out⟩
theorem areNone_any (A : Option Addr) (k : Nat) (cs : List Crv) (h0 : 0 < cs.length) (hlen : cs.length ≤ 1000000) (hlen2 : ∀ c ∈ cs, c.2.length ≤ 1000000) (w : World) (hC : Curves w w.heap.size A cs) :
    Calls Try.prog 21 #[.slice A cs.length k] w (MayEnd (¬ AllR cs) w) := by
  have ci := hidd (conN_any A k cs hlen hlen2 w hC)
  have h2 : ((cs.length : Int) == 0) = false := beq_eq_false_iff_ne.2 (by omega)
  clear hC hlen2 h0
  unfold MayEnd at ci ⊢
  go_enter Try.func21, Try.ntmps21
  go_wp2_with fail
  refine ci.out.mono ?_
  rintro e w1 ⟨R, rfl, hR, hb⟩
  have HR := hidd hR
  clear hR
  go_wp2_with fail
  go_ret
  exact ⟨R, by first | rfl | simp, HR.out, hb⟩
theorem allR_may {cs : List Crv} (h : AllR cs) : MayAll (allLines cs) := fun i hi => by
  have hx : (allLines cs)[i] ∈ allLines cs := List.getElem_mem hi
  unfold allLines at hx
  obtain ⟨c, hc, hxc⟩ := List.mem_flatMap.1 hx
  obtain ⟨j, hj, rfl⟩ := List.mem_iff_getElem.1 hc
  obtain ⟨m, hm, e⟩ := List.mem_iff_getElem.1 hxc
  have := (h j hj).2.1 m hm
  rw [← (av_at hm).1, ← (av_at hm).2] at this
  rw [← (av_at hi).1, ← (av_at hi).2]
  have e2 : (cs[j]).2[m] = (allLines cs)[i] := e
  rw [e2] at this
  exact this
theorem allR_pos {cs : List Crv} (h : AllR cs) (h0 : 0 < cs.length) : 0 < (allLines cs).length := by
  have hx : (cs[0]).2[0]'((h 0 h0).1.1) ∈ allLines cs := by
    unfold allLines
    exact List.mem_flatMap.2 ⟨cs[0], List.getElem_mem h0, List.getElem_mem _⟩
  exact List.length_pos_of_mem hx
set_option maxHeartbeats 2000000 in
theorem min_good (ok : Bool) (A : Option Addr) (k : Nat) (cs : List Crv) (h0 : 0 < cs.length) (hlen : cs.length ≤ 1000000) (hlen2 : ∀ c ∈ cs, c.2.length ≤ 1000000) (hall : (allLines cs).length ≤ 1000000) (w : World) (hC : Curves w w.heap.size A cs) (hR : AllR cs) (hok : ok = true ↔ (CM.low (allLines cs)).length ≤ 32) :
    Calls Try.prog 7 #[.slice A cs.length k] w (MakeEnd [] (if ok then CM.low (allLines cs) else []) (if ok then 0 else 3) w) := by
  have cc := hidd (areNone_any A k cs h0 hlen hlen2 w hC)
  have HC := hidd hC
  have hm := allR_may hR
  have h0' := allR_pos hR h0
  have hne : allLines cs ≠ [] := fun e => by rw [e] at h0'; simp at h0'
  have cl := hidd (fun (W : World) (hW : Curves W W.heap.size A cs) => lowest_any A k cs hlen hlen2 hall hne hm.ok W hW)
  have hml := may_low hm
  have hpl := low_pos h0'
  have hll := CM.low_len (allLines cs)
  have HR := hidd hR
  have cb := hidd (fun A2 c2 W (hW : Lie sendV 2 W W.heap.size A2 (CM.low (allLines cs))) => bounded_any A2 (CM.low (allLines cs)) c2 (by omega) hpl W hW)
  have hbd : ok = true ↔ boundP (CM.low (allLines cs)) := ⟨fun h => may_bound hml hpl (hok.1 h), fun h => hok.2 h.1⟩
  have HBD := hidd hbd
  clear hC hm h0' hml hpl hll hbd hR hok hne hlen2 h0
  generalize CM.low (allLines cs) = Z at *
  unfold MakeEnd
  unfold MayEnd at cc
  cases ok
  case true =>
    have HBP := hidd (HBD.out.1 rfl)
    simp only [if_true]
    go_enter Try.func7, Try.ntmps7
    go_wp2_with fail
    refine cc.out.mono ?_
    rintro e w1 ⟨R, rfl, hR, hb1⟩
    obtain rfl : R = false := by cases R; rfl; exact absurd HR.out (hR.1 rfl)
    have ck := hidd (cl.out w1 ((HC.out.keep hb1).more hb1.size))
    have HB1 := hidd hb1
    clear hR cl hb1
    go_wp2_with fail
    refine ck.out.mono ?_
    rintro e w2 ⟨v, rfl, hO, hb2⟩
    have hb3 := below_step HB1.out hb2
    have HB3 := hidd hb3
    obtain ⟨A2, c2, rfl, _, _, hl2⟩ := hO.lie sendV_len
    have ce := hidd ((cb.out A2 c2 w2 hl2).1 HBP.out)
    have HO := hidd (hO.base HB1.out.size : OwnL sendV 2 w2 w.heap.size 44 _ _)
    clear hO hl2 hb2 hb3 cb
    go_wp2_with fail
    refine ce.out.mono ?_
    rintro e w3 ⟨rfl, rfl⟩
    go_wp2_with fail
    go_ret2
    exact ⟨_, rfl, HO.out, HB3.out⟩
  case false =>
    have HBP := hidd (show ¬ boundP Z from fun h => absurd (HBD.out.2 h) Bool.false_ne_true)
    simp only [Bool.false_eq_true, if_false]
    go_enter Try.func7, Try.ntmps7
    go_wp2_with fail
    refine cc.out.mono ?_
    rintro e w1 ⟨R, rfl, hR, hb1⟩
    obtain rfl : R = false := by cases R; rfl; exact absurd HR.out (hR.1 rfl)
    have ck := hidd (cl.out w1 ((HC.out.keep hb1).more hb1.size))
    have HB1 := hidd hb1
    clear hR cl hb1
    go_wp2_with fail
    refine ck.out.mono ?_
    rintro e w2 ⟨v, rfl, hO, hb2⟩
    have hb3 := below_step HB1.out hb2
    have HB3 := hidd hb3
    obtain ⟨A2, c2, rfl, _, _, hl2⟩ := hO.lie sendV_len
    have ce := hidd ((cb.out A2 c2 w2 hl2).2 HBP.out)
    clear hO hl2 hb2 hb3 cb
    go_wp2_with fail
    refine ce.out.mono ?_
    rintro e w3 ⟨rfl, rfl⟩
    go_wp2_with fail
    go_ret2
    exact ⟨_, rfl, OwnL.nil _ _ _, HB3.out⟩
end Go.Proofs.Ytpgaklfgbioocaa

namespace Go.Proofs.Ytpgaklfgbioocaa
set_option linter.unusedVariables false
open Go.RowKit Go.Proofs.Ytpgaklfgbioocaa.RowK

instance (L : List (Int × Int)) : Decidable (boundP L) := by unfold boundP; infer_instance
theorem tog_rgt {L M : List (Int × Int)} (hL : RgtC L) (hM : RgtC M) (hb : boundP (CM.tog L M)) : RgtC (CM.tog L M) := by
  have hn := CM.tog_nrm hL.2.2 hM.2.2
  obtain ⟨b1, b2, b3⟩ := hb
  refine ⟨⟨hn.1, b1⟩, fun i hi => ?_, hn⟩
  have m1 := CM.nrm_mono hn.2 ((CM.tog L M).length - 1 - i) i (by omega)
  have m2 := CM.nrm_mono hn.2 i 0 (by omega)
  have e : i + ((CM.tog L M).length - 1 - i) = (CM.tog L M).length - 1 := by omega
  rw [e] at m1
  rw [Nat.zero_add] at m2
  obtain ⟨a, b, ha, hb, hx⟩ := CM.tog_mem hL.2.2 hM.2.2 _ (List.getElem_mem hi)
  have g := CM.at_get hi
  rw [hx] at g
  have u := mayB_iff (hL.2.1 a ha)
  have v := mayB_iff (hM.2.1 b hb)
  unfold CM.pr at g
  simp only at u v g
  refine decide_eq_true ?_
  simp only
  omega
def sumL : List (Int × Int) → List (List (Int × Int)) → Option (List (Int × Int))
  | T, [] => some T
  | T, c :: cs => if boundP (CM.tog T c) then sumL (CM.tog T c) cs else none
theorem sumL_cons (T c : List (Int × Int)) (cs : List (List (Int × Int))) : sumL T (c :: cs) = if boundP (CM.tog T c) then sumL (CM.tog T c) cs else none := rfl
def Caps (cs : List Crv) : Prop := ∀ c ∈ cs, ∃ A k, c.1 = .slice A c.2.length k ∧ c.2.length ≤ k ∧ k ≤ maxLen
theorem rgt_zero : RgtC [(0, 0)] := ⟨⟨by simp, by simp⟩, fun i hi => by
  obtain rfl : i = 0 := by simp at hi; omega
  decide, by simp, fun i h1 h2 => absurd h2 (by simp; omega)⟩
theorem drop_next (cs : List Crv) (i : Nat) (h : i < cs.length) : (cs.map (·.2)).drop i = (cs[i]).2 :: (cs.map (·.2)).drop (i + 1) := by
  rw [List.drop_eq_getElem_cons (by simpa using h)]
  simp
/-- together, of curves in any slices. -/
theorem together_two (A B : Option Addr) (L M : List (Int × Int)) (c d : Nat) (hL : RgtC L) (hM : RgtC M) (hc : L.length ≤ c) (hcm : c ≤ maxLen) (hd : M.length ≤ d) (hdm : d ≤ maxLen) (w : World) (hA : Lie sendV 2 w w.heap.size A L) (hB : Lie sendV 2 w w.heap.size B M) :
    Calls Try.prog 24 #[.slice A L.length c, .slice B M.length d] w fun e w' => ∃ v, e = .returned v ∧ OwnL sendV 2 w' w.heap.size 44 v (CM.tog L M) ∧ Below w.heap.size w w' := by
  obtain ⟨ad, rfl, _⟩ := hA hL.1.1
  obtain ⟨bd, rfl, _⟩ := hB hM.1.1
  exact together_any ad bd L M c d hL hM hc hcm hd hdm w hA hB
def SumEnd (cs : List Crv) (w : World) (e : Ending) (w' : World) : Prop :=
  (∃ T v, sumL [(0, 0)] (cs.map (·.2)) = some T ∧ RgtC T ∧ e = .returned (.tuple #[v, .int .i64 0]) ∧ OwnL sendV 2 w' w.heap.size 44 v T ∧ Below w.heap.size w w') ∨
  (sumL [(0, 0)] (cs.map (·.2)) = none ∧ e = .returned (.tuple #[.slice none 0 0, .int .i64 3]) ∧ Below w.heap.size w w')
set_option maxRecDepth 100000 in
set_option maxHeartbeats 8000000 in
theorem sum_good (A : Option Addr) (k : Nat) (cs : List Crv) (h0 : 0 < cs.length) (hlen : cs.length ≤ 1000000) (hlen2 : ∀ c ∈ cs, c.2.length ≤ 1000000) (hcap : Caps cs) (w : World) (hC : Curves w w.heap.size A cs) (hR : AllR cs) :
    Calls Try.prog 8 #[.slice A cs.length k] w (SumEnd cs w) := by
  have cc := hidd (areNone_any A k cs h0 hlen hlen2 w hC)
  have HC := hidd hC
  have HR := hidd hR
  have HCAP := hidd hcap
  have ct := hidd (fun A B L M c d hL hM hc hcm hd hdm W hA hB => together_two A B L M c d hL hM hc hcm hd hdm W hA hB)
  have cb := hidd (fun A2 (Z : List (Int × Int)) c2 hz hp W (hW : Lie sendV 2 W W.heap.size A2 Z) => bounded_any A2 Z c2 hz hp W hW)
  unfold MayEnd at cc
  clear hC hR hlen2 hcap h0
  go_enter Try.func8, Try.ntmps8
  go_wp2_with fail
  refine cc.out.mono ?_
  rintro e w1 ⟨R, rfl, hR, hb1⟩
  obtain rfl : R = false := by cases R; rfl; exact absurd HR.out (hR.1 rfl)
  have HB1 := hidd (below_new hb1 (.cells #[.int .i64 0, .int .i64 0] 44))
  have HO1 := hidd (own_one w1 w.heap.size hb1.size 44 0 0)
  clear hR hb1 cc
  go_wp2_with fail
  go_loopg [4, 5, 14] (cs.length + 2) (fun g s4 s5 s14 wr => ∃ (i : Nat) (T : List (Int × Int)), i ≤ cs.length ∧ i + g = cs.length + 2 ∧ s14 = .int .i64 (i : Int) ∧ s5 = .int .i64 0 ∧ OwnL sendV 2 wr w.heap.size 44 s4 T ∧ RgtC T ∧ sumL [(0, 0)] (cs.map (·.2)) = sumL T ((cs.map (·.2)).drop i) ∧ Below w.heap.size w wr)
  case atStart => exact ⟨0, [(0, 0)], by omega, by omega, rfl, rfl, HO1.out, rgt_zero, by rw [List.drop_zero], HB1.out⟩
  case round =>
    obtain ⟨i, T, hi1, hg, rfl, rfl, hO, hT, hs, hB⟩ := hrel
    have HG := hidd hg
    have HO := hidd hO
    have HT := hidd hT
    have HS := hidd hs
    have HB := hidd hB
    clear hg hO hT hs hB
    by_cases hin : i < cs.length
    · have hin2 : (i : Int) < (cs.length : Int) := by omega
      have hi0 : (0 : Int) ≤ (i : Int) := by omega
      obtain ⟨ad, rfl, ha, x0⟩ := (HC.out.keep HB.out).at_ i hin
      obtain ⟨A1, k1, e1, hk1, hk2⟩ := HCAP.out (cs[i]) (List.getElem_mem hin)
      obtain ⟨A2, k2, e2, hl⟩ := (HC.out.keep HB.out).2 (cs[i]) (List.getElem_mem hin)
      rw [e1] at e2
      injection e2 with e3 e4 e5
      subst e3
      subst e5
      rw [e1] at x0
      obtain ⟨B5, k5, rfl, hb5, hb6, hl5⟩ := HO.out.lie sendV_len
      have hM : RgtC (cs[i]).2 := HR.out i hin
      have CT := hidd (ct.out B5 A1 T (cs[i]).2 k5 k1 HT.out hM hb5 hb6 hk1 hk2 wr hl5 (hl.more HB.out.size))
      have hds := drop_next cs i hin
      have hs2 := HS.out
      rw [hds, sumL_cons] at hs2
      have HS2 := hidd hs2
      have htl := CM.tog_len T (cs[i]).2
      have htr := fun hb => tog_rgt HT.out hM hb
      have hTl := HT.out.1.2
      have hMl := hM.1.2
      obtain ⟨M, hMe⟩ : ∃ M, (cs[i]).2 = M := ⟨_, rfl⟩
      rw [hMe] at CT HS2 htl htr hMl x0
      obtain ⟨n1, hn1⟩ : ∃ n1, M.length = n1 := ⟨_, rfl⟩
      rw [hn1] at CT htl hMl x0
      obtain ⟨n2, hn2⟩ : ∃ n2, T.length = n2 := ⟨_, rfl⟩
      rw [hn2] at CT htl hTl ⊢
      obtain ⟨Z, hZ⟩ : ∃ Z, CM.tog T M = Z := ⟨_, rfl⟩
      have hZ0 : 0 < Z.length := by rw [← hZ]; exact CM.tog_pos T M
      rw [hZ] at CT HS2 htl htr
      have HTR := hidd htr
      clear hMe hn1 hn2 hZ hds hs2 e1 hl hk1 hk2 hb5 hb6 hl5 hM htr ha
      go_wp2_with fail
      refine (CT.out).mono ?_
      rintro e w2 ⟨v, rfl, hO2, hb2⟩
      have HB2 := hidd (below_step HB.out hb2)
      have HO2 := hidd (hO2.base HB.out.size : OwnL sendV 2 w2 w.heap.size 44 _ _)
      obtain ⟨A2, c2, rfl, _, _, hl2⟩ := hO2.lie sendV_len
      have hcb := cb.out A2 Z c2 (by omega) hZ0 w2 hl2
      by_cases hbp : boundP Z
      · have CB := hidd (hcb.1 hbp)
        have hs2 := HS2.out
        rw [if_pos hbp] at hs2
        have HS3 := hidd hs2
        have HT3 := hidd (HTR.out hbp)
        clear hcb hbp hs2 hO2 hb2 hl2 CT
        go_wp2_with fail
        refine CB.out.mono ?_
        rintro e w3 ⟨rfl, rfl⟩
        go_wp2_with fail
        have hg := HG.out
        go_roundg (gk - 1)
        case measure => omega
        case rel => exact ⟨i + 1, Z, by omega, by omega, by go_num, rfl, HO2.out, HT3.out, HS3.out, HB2.out⟩
      · have CB := hidd (hcb.2 hbp)
        have hs2 := HS2.out
        rw [if_neg hbp] at hs2
        have HS3 := hidd hs2
        clear hcb hbp hs2 hO2 hb2 hl2 CT
        go_wp2_with fail
        refine CB.out.mono ?_
        rintro e w3 ⟨rfl, rfl⟩
        go_wp2_with fail
        go_ret2
        exact .inr ⟨HS3.out, rfl, HB2.out⟩
    · obtain rfl : i = cs.length := by omega
      have hs := HS.out
      rw [List.drop_of_length_le (by simp)] at hs
      have HS2 := hidd hs
      have hin2 : ¬ (cs.length : Int) < (cs.length : Int) := by omega
      clear hs
      go_wp2_with fail
      go_ret2
      exact .inl ⟨T, _, HS2.out, HT.out, rfl, HO.out, HB.out⟩
end Go.Proofs.Ytpgaklfgbioocaa

namespace Go.Proofs.Ytpgaklfgbioocaa
set_option linter.unusedVariables false
open Go.RowKit Go.Proofs.Ytpgaklfgbioocaa.RowK

def UpR (a b : Int × Int) : Prop := a.1 < b.1 ∨ a.1 = b.1 ∧ a.2 ≤ b.2
theorem UpR.trans {a b c : Int × Int} (h : UpR a b) (g : UpR b c) : UpR a c := by unfold UpR at *; omega
theorem UpR.total {a b : Int × Int} (h : ¬ UpR a b) : UpR b a := by unfold UpR at *; omega
def Ups (L : List (Int × Int)) : Prop := L.Pairwise UpR
/-- c with x behind its first k. -/
def putL (c : List (Int × Int)) (x : Int × Int) (k : Nat) : List (Int × Int) := c.take k ++ [x] ++ c.drop k
theorem putL_mem {c : List (Int × Int)} {x : Int × Int} {k : Nat} (y : Int × Int) : y ∈ putL c x k ↔ y ∈ c ∨ y = x := by
  have e : y ∈ c ↔ y ∈ c.take k ∨ y ∈ c.drop k := by
    conv => lhs; rw [← List.take_append_drop k c]
    rw [List.mem_append]
  unfold putL
  rw [List.mem_append, List.mem_append, List.mem_singleton, e]
  constructor
  · rintro ((h | h) | h)
    · exact .inl (.inl h)
    · exact .inr h
    · exact .inl (.inr h)
  · rintro ((h | h) | h)
    · exact .inl (.inl h)
    · exact .inr h
    · exact .inl (.inr h)
theorem putL_len {c : List (Int × Int)} {x : Int × Int} {k : Nat} (hk : k ≤ c.length) : (putL c x k).length = c.length + 1 := by
  unfold putL; simp; omega
theorem putL_ups {c : List (Int × Int)} {x : Int × Int} {k : Nat} (h : Ups c) (hk : k ≤ c.length) (h1 : ∀ j, j < k → UpR (SM.av c j, SM.sv c j) x) (h2 : k < c.length → ¬ UpR (SM.av c k, SM.sv c k) x) : Ups (putL c x k) := by
  unfold Ups at *
  have h' := h
  rw [← List.take_append_drop k c, List.pairwise_append] at h'
  obtain ⟨g1, g2, g3⟩ := h'
  unfold putL
  rw [List.append_assoc, List.pairwise_append]
  have hx : ∀ a ∈ c.take k, UpR a x := fun a ha => by
    obtain ⟨j, hj, rfl⟩ := List.mem_iff_getElem.1 ha
    have hjk : j < k ∧ j < c.length := by simp at hj; omega
    have := h1 j hjk.1
    rw [← (av_at hjk.2).1, ← (av_at hjk.2).2] at this
    simpa using this
  have hd : ∀ b ∈ c.drop k, UpR x b := fun b hb => by
    obtain ⟨j, hj, rfl⟩ := List.mem_iff_getElem.1 hb
    have hjl : k + j < c.length := by simp at hj; omega
    have hkl : k < c.length := by omega
    have h3 : UpR x c[k] := by
      have := h2 hkl
      rw [← (av_at hkl).1, ← (av_at hkl).2] at this
      exact UpR.total this
    rw [List.getElem_drop]
    rcases Nat.eq_zero_or_pos j with rfl | hj0
    · simpa using h3
    · exact h3.trans ((List.pairwise_iff_getElem.1 h) k (k + j) hkl hjl (by omega))
  refine ⟨g1, ?_, fun a ha b hb => ?_⟩
  · rw [List.singleton_append, List.pairwise_cons]
    exact ⟨hd, g2⟩
  · rw [List.singleton_append, List.mem_cons] at hb
    rcases hb with rfl | hb
    · exact hx a ha
    · exact g3 a ha b hb
/-- line i is nowhere the only least one. -/
def GoneAt (c : List (Int × Int)) (i : Nat) : Prop :=
  (0 < i ∧ SM.sv c (i - 1) ≤ SM.sv c i) ∨ (0 < i ∧ i + 1 < c.length ∧ SM.sv c (i + 1) < SM.sv c i ∧ (SM.av c (i + 1) - SM.av c (i - 1)) * (SM.sv c (i - 1) - SM.sv c i) ≤ (SM.av c i - SM.av c (i - 1)) * (SM.sv c (i - 1) - SM.sv c (i + 1)))
theorem mid_dom {b0 b1 b2 r0 r1 r2 D N : Int} (h1 : r1 < r0) (h2 : r2 < r1) (h : (b2 - b0) * (r0 - r1) ≤ (b1 - b0) * (r0 - r2)) (hD : 0 ≤ D) (hN : 0 ≤ N) : b0 * D + r0 * N ≤ b1 * D + r1 * N ∨ b2 * D + r2 * N ≤ b1 * D + r1 * N := by
  by_cases g1 : b0 * D + r0 * N ≤ b1 * D + r1 * N
  · exact .inl g1
  by_cases g2 : b2 * D + r2 * N ≤ b1 * D + r1 * N
  · exact .inr g2
  exfalso
  obtain ⟨p, hp⟩ : ∃ p, r0 - r1 = p := ⟨_, rfl⟩
  obtain ⟨q, hq⟩ : ∃ q, r1 - r2 = q := ⟨_, rfl⟩
  have hr0 : r0 = r1 + p := by omega
  have hr2 : r2 = r1 - q := by omega
  subst hr0 hr2
  have p0 : 0 < p := by omega
  have q0 : 0 < q := by omega
  have hA : b2 * p + b0 * q ≤ b1 * (p + q) := by
    have e1 : r1 + p - r1 = p := by omega
    have e2 : r1 + p - (r1 - q) = p + q := by omega
    rw [e1, e2] at h
    have e3 : (b2 - b0) * p = b2 * p - b0 * p := Int.sub_mul _ _ _
    have e4 : (b1 - b0) * (p + q) = b1 * (p + q) - b0 * p - b0 * q := by grind
    omega
  have hB := Int.mul_le_mul_of_nonneg_right hA hD
  have k1 := Int.mul_lt_mul_of_pos_right (show b1 * D + r1 * N < b0 * D + (r1 + p) * N by omega) q0
  have k2 := Int.mul_lt_mul_of_pos_right (show b1 * D + r1 * N < b2 * D + (r1 - q) * N by omega) p0
  have e5 : (b0 * D + (r1 + p) * N) * q + (b2 * D + (r1 - q) * N) * p = (b2 * p + b0 * q) * D + (r1 * (p + q)) * N := by grind
  have e6 : (b1 * D + r1 * N) * q + (b1 * D + r1 * N) * p = b1 * (p + q) * D + (r1 * (p + q)) * N := by grind
  omega
theorem gone_dom {c : List (Int × Int)} {i : Nat} (h : Ups c) (hi : i < c.length) (hg : GoneAt c i) {N D : Int} (hN : 0 ≤ N) (hD : 0 ≤ D) : ∃ j, ∃ hj : j < c.length, j ≠ i ∧ CM.val c[j] N D ≤ CM.val c[i] N D := by
  have h0 : 0 < i := by rcases hg with h | h; exact h.1; exact h.1
  have hu := (List.pairwise_iff_getElem.1 h) (i - 1) i (by omega) hi (by omega)
  have a1 := av_at (show i - 1 < c.length by omega)
  have a2 := av_at hi
  by_cases hA : SM.sv c (i - 1) ≤ SM.sv c i
  · refine ⟨i - 1, by omega, by omega, ?_⟩
    unfold CM.val
    rw [a1.1, a1.2, a2.1, a2.2]
    have hb : SM.av c (i - 1) ≤ SM.av c i := by
      unfold UpR at hu
      rw [a1.1, a1.2, a2.1, a2.2] at hu
      omega
    have m1 := Int.mul_le_mul_of_nonneg_right hb hD
    have m2 := Int.mul_le_mul_of_nonneg_right hA hN
    omega
  · rcases hg with hg | ⟨_, h3, h4, h5⟩
    · exact absurd hg.2 hA
    · have a3 := av_at h3
      rcases mid_dom (show SM.sv c i < SM.sv c (i - 1) by omega) h4 h5 hD hN with g | g
      · refine ⟨i - 1, by omega, by omega, ?_⟩
        unfold CM.val
        rw [a1.1, a1.2, a2.1, a2.2]
        exact g
      · refine ⟨i + 1, h3, by omega, ?_⟩
        unfold CM.val
        rw [a3.1, a3.2, a2.1, a2.2]
        exact g
theorem erase_min {c : List (Int × Int)} {i : Nat} (h : Ups c) (hi : i < c.length) (hg : GoneAt c i) {N D v : Int} (hN : 0 ≤ N) (hD : 0 ≤ D) : CM.IsMin (c.eraseIdx i) N D v ↔ CM.IsMin c N D v := by
  have hm : ∀ y, y ∈ c.eraseIdx i ↔ ∃ j, ∃ hj : j < c.length, j ≠ i ∧ c[j] = y := fun y => by
    rw [List.mem_eraseIdx_iff_getElem]
  obtain ⟨j0, hj0, hne, hd⟩ := gone_dom h hi hg hN hD
  have hj0m : c[j0] ∈ c.eraseIdx i := (hm _).2 ⟨j0, hj0, hne, rfl⟩
  constructor
  · rintro ⟨⟨x, hx, e⟩, h2⟩
    obtain ⟨j, hj, _, rfl⟩ := (hm x).1 hx
    refine ⟨⟨_, List.getElem_mem hj, e⟩, fun y hy => ?_⟩
    obtain ⟨k, hk, rfl⟩ := List.mem_iff_getElem.1 hy
    by_cases hki : k = i
    · subst hki
      have := h2 _ hj0m
      omega
    · exact h2 _ ((hm _).2 ⟨k, hk, hki, rfl⟩)
  · rintro ⟨⟨x, hx, e⟩, h2⟩
    refine ⟨?_, fun y hy => ?_⟩
    · obtain ⟨k, hk, rfl⟩ := List.mem_iff_getElem.1 hx
      by_cases hki : k = i
      · subst hki
        have := h2 _ (List.getElem_mem hj0)
        exact ⟨_, hj0m, by omega⟩
      · exact ⟨_, (hm _).2 ⟨k, hk, hki, rfl⟩, e⟩
    · obtain ⟨k, hk, _, rfl⟩ := (hm y).1 hy
      exact h2 _ (List.getElem_mem hk)
theorem erase_ups {c : List (Int × Int)} {i : Nat} (h : Ups c) : Ups (c.eraseIdx i) := List.Pairwise.sublist (List.eraseIdx_sublist c i) h
theorem stay_nrm {c : List (Int × Int)} (h : Ups c) (h0 : 0 < c.length) (hn : ∀ i, i < c.length → ¬ GoneAt c i) : Nrm c := by
  refine ⟨h0, fun i h1 h2 => ?_⟩
  have key : ∀ i, 1 ≤ i → i < c.length → SM.av c (i - 1) < SM.av c i ∧ SM.sv c i < SM.sv c (i - 1) := fun i h1 h2 => by
    have hg := hn i h2
    have hu := (List.pairwise_iff_getElem.1 h) (i - 1) i (by omega) h2 (by omega)
    have a1 := av_at (show i - 1 < c.length by omega)
    have a2 := av_at h2
    unfold UpR at hu
    rw [a1.1, a1.2, a2.1, a2.2] at hu
    have h3 : ¬ SM.sv c (i - 1) ≤ SM.sv c i := fun h => hg (.inl ⟨by omega, h⟩)
    omega
  refine ⟨key i h1 h2, fun h3 => ?_⟩
  obtain ⟨k, rfl⟩ : ∃ k, i = k + 2 := ⟨i - 2, by omega⟩
  have hg := hn (k + 1) (by omega)
  have k1 := key (k + 2) (by omega) h2
  have k2 := key (k + 1) (by omega) (by omega)
  rw [show k + 2 - 1 = k + 1 by omega] at *
  rw [show k + 2 - 2 = k by omega] at *
  rw [show k + 1 - 1 = k by omega] at *
  have h5 : ¬ (SM.av c (k + 1 + 1) - SM.av c k) * (SM.sv c k - SM.sv c (k + 1)) ≤ (SM.av c (k + 1) - SM.av c k) * (SM.sv c k - SM.sv c (k + 1 + 1)) := fun hh => hg (.inr ⟨by omega, by omega, k1.2, hh⟩)
  rw [show k + 1 + 1 = k + 2 by omega] at h5
  generalize SM.av c k = b0 at *
  generalize SM.av c (k + 1) = b1 at *
  generalize SM.av c (k + 2) = b2 at *
  generalize SM.sv c k = r0 at *
  generalize SM.sv c (k + 1) = r1 at *
  generalize SM.sv c (k + 2) = r2 at *
  clear hg hn h key k1 k2
  grind
theorem least_eq {c l : List (Int × Int)} (hc : Nrm c) (hl : l ≠ []) (h : ∀ N D v, 0 ≤ N → 0 ≤ D → (CM.IsMin c N D v ↔ CM.IsMin l N D v)) : c = CM.low l :=
  CM.nrm_same hc (CM.low_nrm hl) fun N D v a b => by rw [CM.low_min a b]; exact h N D v a b
end Go.Proofs.Ytpgaklfgbioocaa

namespace Go.Proofs.Ytpgaklfgbioocaa
namespace CM
set_option linter.unusedVariables false

theorem nb_vl {L : List (Int × Int)} {i : Nat} (h : i + 1 < L.length) (N D : Int) : vl L (i + 1) N D - vl L i N D = (nb L i).1 * D - (nb L i).2 * N := by
  rw [vl_step]
  unfold nb
  rw [if_pos h]
/-- from here on a list does not fall at that time. -/
def Stays (L : List (Int × Int)) (N D : Int) (i : Nat) : Prop := (nb L i).2 * N ≤ (nb L i).1 * D
theorem stays_next {L : List (Int × Int)} (h : AllN L) {N D : Int} (hD : 0 ≤ D) {i : Nat} (hi : i + 1 < L.length) (hs : Stays L N D i) : Stays L N D (i + 1) := by
  unfold Stays at *
  obtain ⟨p1, p2, p3, _⟩ := nb_pos h i
  obtain ⟨q1, q2, _, _⟩ := nb_pos h (i + 1)
  have hp := p3 hi
  have hn := nb_next h hi
  generalize (nb L i).1 = a at *
  generalize (nb L i).2 = b at *
  generalize (nb L (i + 1)).1 = c at *
  generalize (nb L (i + 1)).2 = d at *
  have k1 : d * (b * N) ≤ d * (a * D) := Int.mul_le_mul_of_nonneg_left hs q2
  have k2 : a * d * D ≤ c * b * D := Int.mul_le_mul_of_nonneg_right (by omega) hD
  refine Int.le_of_mul_le_mul_right (a := b) ?_ hp
  have e1 : d * N * b = d * (b * N) := by grind
  have e2 : d * (a * D) = a * d * D := by grind
  have e3 : c * D * b = c * b * D := by grind
  omega
theorem stays_all {L : List (Int × Int)} (h : AllN L) {N D : Int} (hD : 0 ≤ D) {i : Nat} (hs : Stays L N D i) : ∀ k, i + k < L.length → vl L i N D ≤ vl L (i + k) N D ∧ Stays L N D (i + k)
  | 0, _ => ⟨Int.le_refl _, hs⟩
  | k + 1, hk => by
    obtain ⟨g1, g2⟩ := stays_all h hD hs k (by omega)
    have e := nb_vl (L := L) (i := i + k) (by omega) N D
    unfold Stays at g2
    refine ⟨by rw [← Nat.add_assoc]; omega, by rw [← Nat.add_assoc]; exact stays_next h hD (by omega) g2⟩
theorem falls_all {L : List (Int × Int)} {N D : Int} {i : Nat} (hi : i < L.length) (hf : ∀ j, j < i → ¬ Stays L N D j) : ∀ k, k ≤ i → vl L i N D ≤ vl L (i - k) N D
  | 0, _ => Int.le_refl _
  | k + 1, hk => by
    have g := falls_all hi hf k (by omega)
    have e := nb_vl (L := L) (i := i - (k + 1)) (by omega) N D
    have q := hf (i - (k + 1)) (by omega)
    unfold Stays at q
    have e2 : i - (k + 1) + 1 = i - k := by omega
    rw [e2] at e
    omega
theorem first_stays {L : List (Int × Int)} (h : Nrm L) {N D : Int} (hD : 0 ≤ D) : ∃ i, i < L.length ∧ Stays L N D i ∧ ∀ j, j < i → ¬ Stays L N D j := by
  have h0 := h.1
  obtain ⟨f, h1, h2, h3⟩ := least_of (P := Stays L N D) (L.length - 1) ⟨L.length - 1, Nat.le_refl _, by
    unfold Stays
    rw [(nb_pos h.2 (L.length - 1)).2.2.2 (by omega)]
    show 0 * N ≤ 1 * D
    omega⟩
  exact ⟨f, by omega, h2, h3⟩
theorem stays_min {L : List (Int × Int)} (h : Nrm L) {N D : Int} (hD : 0 ≤ D) {i : Nat} (hi : i < L.length) (hs : Stays L N D i) (hf : ∀ j, j < i → ¬ Stays L N D j) : IsMin L N D (vl L i N D) := by
  refine ⟨⟨L[i], List.getElem_mem hi, (val_vl hi N D).symm⟩, fun x hx => ?_⟩
  obtain ⟨k, hk, rfl⟩ := List.getElem_of_mem hx
  rw [← val_vl hk]
  rcases Nat.lt_or_ge k i with g | g
  · have := falls_all hi hf (i - k) (by omega)
    rwa [show i - (i - k) = k by omega] at this
  · have := (stays_all h.2 hD hs (k - i) (by omega)).1
    rwa [show i + (k - i) = k by omega] at this
theorem stays_ahead {L M : List (Int × Int)} (hL : AllN L) (hM : AllN M) {N D : Int} (hN : 0 ≤ N) (hD : 0 ≤ D) {i j : Nat} (hi : Stays L N D i) (hj : ¬ Stays M N D j) : (nb M j).1 * (nb L i).2 < (nb L i).1 * (nb M j).2 := by
  unfold Stays at *
  obtain ⟨p1, p2, _, _⟩ := nb_pos hL i
  obtain ⟨q1, q2, _, _⟩ := nb_pos hM j
  generalize (nb L i).1 = a at *
  generalize (nb L i).2 = b at *
  generalize (nb M j).1 = c at *
  generalize (nb M j).2 = d at *
  have hj2 : c * D < d * N := by omega
  have hcd : 0 ≤ c * D := Int.mul_nonneg (by omega) hD
  have hd0 : 0 < d := by
    rcases Int.lt_or_le 0 d with g | g
    · exact g
    · have : d = 0 := by omega
      rw [this, Int.zero_mul] at hj2
      omega
  rcases Int.lt_or_le 0 b with g | g
  · have k1 : c * D * b < d * N * b := Int.mul_lt_mul_of_pos_right hj2 g
    have k2 : d * (b * N) ≤ d * (a * D) := Int.mul_le_mul_of_nonneg_left hi (by omega)
    have e1 : c * D * b = c * b * D := by grind
    have e2 : d * N * b = d * (b * N) := by grind
    have e3 : d * (a * D) = a * d * D := by grind
    rcases Int.lt_or_le (c * b) (a * d) with g2 | g2
    · exact g2
    · have := Int.mul_le_mul_of_nonneg_right g2 hD
      omega
  · have hb : b = 0 := by omega
    rw [hb, Int.mul_zero]
    exact Int.mul_pos p1 hd0
/-- at each time a pair of least ones is there. -/
theorem tog_visits {L M : List (Int × Int)} (hL : Nrm L) (hM : Nrm M) {N D : Int} (hN : 0 ≤ N) (hD : 0 ≤ D) : ∃ i j, (i < L.length ∧ j < M.length) ∧ IsMin L N D (vl L i N D) ∧ IsMin M N D (vl M j N D) ∧ pr L M i j ∈ tog L M := by
  obtain ⟨i0, hi0, si, fi⟩ := first_stays hL (N := N) hD
  obtain ⟨j0, hj0, sj, fj⟩ := first_stays hM (N := N) hD
  refine ⟨i0, j0, ⟨hi0, hj0⟩, stays_min hL hD hi0 si fi, stays_min hM hD hj0 sj fj, ?_⟩
  obtain ⟨i, j, hi, hj, h⟩ := tog_ind hL hM (fun i j R => pr L M i0 j0 ∈ R ∨ ((i ≤ i0 ∧ j ≤ j0) ∧ ¬ (i = i0 ∧ j = j0))) (by
    by_cases h : i0 = 0 ∧ j0 = 0
    · left; rw [h.1, h.2]; simp
    · right; exact ⟨⟨by omega, by omega⟩, by omega⟩) (by
    rintro i j R hi hj hc (h | ⟨⟨h1, h2⟩, h3⟩)
    · left; exact List.mem_append_left _ h
    · have hle : ni L M i j ≤ i0 ∧ nj L M i j ≤ j0 := by
        rcases tog_next hL.2 hM.2 hi hj hc with ⟨a, b, c, d⟩ | ⟨a, b, c, d⟩ | ⟨a, b, c, e, d⟩
        · rw [a, b]
          refine ⟨?_, h2⟩
          rcases Nat.lt_or_ge i i0 with g | g
          · omega
          · obtain rfl : i = i0 := by omega
            have := stays_ahead hL.2 hM.2 hN hD si (fj j (by omega))
            omega
        · rw [a, b]
          refine ⟨h1, ?_⟩
          rcases Nat.lt_or_ge j j0 with g | g
          · omega
          · obtain rfl : j = j0 := by omega
            have := stays_ahead hM.2 hL.2 hN hD sj (fi i (by omega))
            omega
        · rw [a, b]
          rcases Nat.lt_or_ge i i0 with g | g
          · rcases Nat.lt_or_ge j j0 with g2 | g2
            · omega
            · obtain rfl : j = j0 := by omega
              have := stays_ahead hM.2 hL.2 hN hD sj (fi i (by omega))
              omega
          · obtain rfl : i = i0 := by omega
            have := stays_ahead hL.2 hM.2 hN hD si (fj j (by omega))
            omega
      by_cases g : ni L M i j = i0 ∧ nj L M i j = j0
      · left; rw [g.1, g.2]; simp
      · right; exact ⟨hle, g⟩)
  rcases h with h | ⟨⟨h1, h2⟩, h3⟩
  · exact h
  · exact absurd ⟨by omega, by omega⟩ h3
theorem val_pr {L M : List (Int × Int)} {i j : Nat} {N D : Int} : val (pr L M i j) N D = vl L i N D + vl M j N D := by
  unfold val pr vl
  grind
/-- together at any time: what both are. -/
theorem tog_min {L M : List (Int × Int)} (hL : Nrm L) (hM : Nrm M) {N D u v : Int} (hN : 0 ≤ N) (hD : 0 ≤ D) (h1 : IsMin L N D u) (h2 : IsMin M N D v) : IsMin (tog L M) N D (u + v) := by
  obtain ⟨i, j, ⟨hi, hj⟩, m1, m2, h⟩ := tog_visits hL hM hN hD
  obtain rfl := h1.same m1
  obtain rfl := h2.same m2
  refine ⟨⟨_, h, val_pr⟩, fun x hx => ?_⟩
  obtain ⟨a, b, ha, hb, rfl⟩ := tog_mem hL hM x hx
  rw [val_pr, val_vl ha, val_vl hb]
  have := m1.2 _ (List.getElem_mem ha)
  have := m2.2 _ (List.getElem_mem hb)
  omega
/-- all sums of a line of each. -/
def pairs (L M : List (Int × Int)) : List (Int × Int) := L.flatMap fun x => M.map fun y => (x.1 + y.1, x.2 + y.2)
theorem pairs_mem {L M : List (Int × Int)} {z : Int × Int} : z ∈ pairs L M ↔ ∃ x ∈ L, ∃ y ∈ M, z = (x.1 + y.1, x.2 + y.2) := by
  unfold pairs
  simp only [List.mem_flatMap, List.mem_map]
  constructor
  · rintro ⟨x, hx, y, hy, rfl⟩; exact ⟨x, hx, y, hy, rfl⟩
  · rintro ⟨x, hx, y, hy, rfl⟩; exact ⟨x, hx, y, hy, rfl⟩
theorem pairs_len (L M : List (Int × Int)) : (pairs L M).length = L.length * M.length := by
  unfold pairs
  induction L with
  | nil => simp
  | cons x xs ih => simp [List.flatMap_cons, ih, Nat.succ_mul]; omega
theorem pairs_min {L M : List (Int × Int)} {N D u v : Int} (h1 : IsMin L N D u) (h2 : IsMin M N D v) : IsMin (pairs L M) N D (u + v) := by
  have e : ∀ x y : Int × Int, val (x.1 + y.1, x.2 + y.2) N D = val x N D + val y N D := fun x y => by unfold val; grind
  obtain ⟨⟨x, hx, rfl⟩, g1⟩ := h1
  obtain ⟨⟨y, hy, rfl⟩, g2⟩ := h2
  refine ⟨⟨_, pairs_mem.2 ⟨x, hx, y, hy, rfl⟩, e x y⟩, fun z hz => ?_⟩
  obtain ⟨a, ha, b, hb, rfl⟩ := pairs_mem.1 hz
  rw [e]
  have := g1 a ha
  have := g2 b hb
  omega
theorem nrm_has {L : List (Int × Int)} (h : Nrm L) (N : Int) {D : Int} (hD : 0 ≤ D) : ∃ v, IsMin L N D v := by
  obtain ⟨i, hi, si, fi⟩ := first_stays h (N := N) hD
  exact ⟨_, stays_min h hD hi si fi⟩
end CM
/-- two curves together are the least of all sums of their lines. -/
theorem tog_low {L M : List (Int × Int)} (hL : Nrm L) (hM : Nrm M) : CM.tog L M = CM.low (CM.pairs L M) := by
  refine least_eq (CM.tog_nrm hL hM) ?_ (fun N D v hN hD => ?_)
  · intro e
    have := CM.pairs_len L M
    rw [e] at this
    have := Nat.mul_pos hL.1 hM.1
    simp at *
    omega
  · obtain ⟨u, hu⟩ := CM.nrm_has hL N hD
    obtain ⟨w, hw⟩ := CM.nrm_has hM N hD
    have a := CM.tog_min hL hM hN hD hu hw
    have b := CM.pairs_min hu hw
    constructor
    · intro h; rw [h.same a]; exact b
    · intro h; rw [h.same b]; exact a
end Go.Proofs.Ytpgaklfgbioocaa

namespace Go.Proofs.Ytpgaklfgbioocaa
set_option linter.unusedVariables false
open Go.RowKit Go.Proofs.Ytpgaklfgbioocaa.RowK

def addP (x y : Int × Int) : Int × Int := (x.1 + y.1, x.2 + y.2)
theorem pairs_take {L M : List (Int × Int)} {i : Nat} (h : i < L.length) : CM.pairs (L.take (i + 1)) M = CM.pairs (L.take i) M ++ M.map (addP (SM.av L i, SM.sv L i)) := by
  unfold CM.pairs
  rw [List.take_succ_eq_append_getElem h, List.flatMap_append]
  simp only [List.flatMap_cons, List.flatMap_nil, List.append_nil]
  rw [← (CM.at_get h).1.symm, ← (CM.at_get h).2.symm]
  rfl
theorem map_take {M : List (Int × Int)} {x : Int × Int} {j : Nat} (h : j < M.length) : (M.take (j + 1)).map (addP x) = (M.take j).map (addP x) ++ [(x.1 + SM.av M j, x.2 + SM.sv M j)] := by
  rw [List.take_succ_eq_append_getElem h, List.map_append, (CM.at_get h).1, (CM.at_get h).2]
  rfl
set_option maxRecDepth 100000 in
set_option maxHeartbeats 8000000 in
theorem refSum_any (A B : Option Addr) (L M : List (Int × Int)) (c d : Nat) (hL : L.length ≤ 40) (hM : M.length ≤ 40) (mL : MayAll L) (mM : MayAll M) (w : World) (hA : Lie sendV 2 w w.heap.size A L) (hB : Lie sendV 2 w w.heap.size B M) :
    Calls Try.prog 11 #[.slice A L.length c, .slice B M.length d] w fun e w' => ∃ v, e = .returned v ∧ OwnL sendV 2 w' w.heap.size 44 v (CM.pairs L M) ∧ Below w.heap.size w w' := by
  obtain ⟨i0, hi0, hz0, hz1, hz2⟩ := info_parts lineInfo
  have HA := hidd hA
  have HBB := hidd hB
  have ML := hidd mL
  have MM := hidd mM
  obtain ⟨nl, hnl⟩ : ∃ k, L.length = k := ⟨_, rfl⟩
  obtain ⟨nm, hnm⟩ : ∃ k, M.length = k := ⟨_, rfl⟩
  rw [hnl] at hL ⊢
  rw [hnm] at hM ⊢
  have HNL := hidd hnl
  have HNM := hidd hnm
  clear hA hB mL mM hnl hnm
  go_enter Try.func11, Try.ntmps11
  go_wp2_with fail
  go_loopg [5, 6] (nl + 2) (fun g s5 s6 wr => ∃ i : Nat, i ≤ nl ∧ i + g = nl + 2 ∧ s6 = .int .i64 (i : Int) ∧ OwnL sendV 2 wr w.heap.size 44 s5 (CM.pairs (L.take i) M) ∧ Below w.heap.size w wr)
  case atStart => exact ⟨0, by omega, by omega, rfl, OwnL.nil _ _ _, Below.refl _ _⟩
  case round =>
    obtain ⟨i, hi1, hg, rfl, hO, hB⟩ := hrel
    have HG := hidd hg
    have HO := hidd hO
    have HB := hidd hB
    clear hg hO hB
    by_cases hin : i < nl
    · have hin2 : (i : Int) < (nl : Int) := by omega
      have hi0' : (0 : Int) ≤ (i : Int) := by omega
      have hlI : i < L.length := by rw [HNL.out]; exact hin
      obtain ⟨gko, rfl⟩ : ∃ g, g = gk := ⟨gk, rfl⟩
      have HPT := hidd (pairs_take (M := M) hlI)
      have hma := may_at ML.out hlI
      obtain ⟨a0, ha0⟩ : ∃ x, SM.av L i = x := ⟨_, rfl⟩
      obtain ⟨a1, ha1⟩ : ∃ x, SM.sv L i = x := ⟨_, rfl⟩
      rw [ha0, ha1] at HPT hma
      have HA0 := hidd ha0
      have HA1 := hidd ha1
      have HLI := hidd hlI
      clear ha0 ha1 hlI
      have hpl : (CM.pairs (L.take i) M).length ≤ 1600 := by
        rw [CM.pairs_len]
        have : (L.take i).length ≤ 40 := by simp; omega
        have k := Nat.mul_le_mul this (show M.length ≤ 40 by rw [HNM.out]; exact hM)
        omega
      go_wp2_with fail
      go_loopg [5, 7] (nm + 2) (fun g s5 s7 wx => ∃ j : Nat, j ≤ nm ∧ j + g = nm + 2 ∧ s7 = .int .i64 (j : Int) ∧ OwnL sendV 2 wx w.heap.size 44 s5 (CM.pairs (L.take i) M ++ (M.take j).map (addP (a0, a1))) ∧ Below w.heap.size w wx)
      case atStart => exact ⟨0, by omega, by omega, rfl, by have := HO.out; simpa using this, HB.out⟩
      case round =>
        obtain ⟨j, hj1, hg, rfl, hO, hB⟩ := hrel
        have HG2 := hidd hg
        have HO2 := hidd hO
        have HB2 := hidd hB
        clear hg hO hB HO HB
        by_cases hjn : j < nm
        · have hjn2 : (j : Int) < (nm : Int) := by omega
          have hj0 : (0 : Int) ≤ (j : Int) := by omega
          have hmJ : j < M.length := by rw [HNM.out]; exact hjn
          obtain ⟨ad, rfl, hab, x0, x1⟩ := (HA.out.keep HB2.out).send i HLI.out
          obtain ⟨bd, rfl, hbb, y0, y1⟩ := (HBB.out.keep HB2.out).send j hmJ
          rw [(av_at HLI.out).1, HA0.out] at x0
          rw [(av_at HLI.out).2, HA1.out] at x1
          rw [(av_at hmJ).1] at y0
          rw [(av_at hmJ).2] at y1
          have hmb := may_at MM.out hmJ
          have HMT := hidd (map_take (x := (a0, a1)) hmJ)
          generalize SM.av M j = b0 at *
          generalize SM.sv M j = b1 at *
          obtain ⟨e1, e1'⟩ : IntKind.i64.wrap (a0 + b0) = a0 + b0 ∧ wrap64 (a0 + b0) = a0 + b0 := by
            have e : IntKind.i64.wrap (a0 + b0) = a0 + b0 := IntWalk.i64_in _ (by omega)
            exact ⟨e, by conv => { rhs; rw [← e] }; simp [IntKind.wrap_i64, wrap64]⟩
          obtain ⟨e2, e2'⟩ : IntKind.i64.wrap (a1 + b1) = a1 + b1 ∧ wrap64 (a1 + b1) = a1 + b1 := by
            have e : IntKind.i64.wrap (a1 + b1) = a1 + b1 := IntWalk.i64_in _ (by omega)
            exact ⟨e, by conv => { rhs; rw [← e] }; simp [IntKind.wrap_i64, wrap64]⟩
          obtain ⟨R, hR⟩ : ∃ R, CM.pairs (L.take i) M ++ (M.take j).map (addP (a0, a1)) = R := ⟨_, rfl⟩
          have hRl : R.length ≤ 2000 := by rw [← hR]; simp; omega
          have HRR := hidd hR
          have hO2 := HO2.out
          rw [hR] at hO2
          have hwB := HB2.out.size
          have KEEP := hidd (fun W' (hb : Below w.heap.size wr W') => (show (W'.cell? (ad.add (i * 2)) = some (.int .i64 a0) ∧ W'.cell? ⟨(ad.add (i * 2)).block, (ad.add (i * 2)).off + 1, none⟩ = some (.int .i64 a1)) ∧ W'.cell? (bd.add (j * 2)) = some (.int .i64 b0) ∧ W'.cell? ⟨(bd.add (j * 2)).block, (bd.add (j * 2)).off + 1, none⟩ = some (.int .i64 b1) from ⟨⟨(hb.cell (p := ad.add (i * 2)) (by rw [block_of_add]; exact hab)).trans x0, (hb.cell (p := ⟨(ad.add (i * 2)).block, (ad.add (i * 2)).off + 1, none⟩) (by rw [block_of_add]; exact hab)).trans x1⟩, (hb.cell (p := bd.add (j * 2)) (by rw [block_of_add]; exact hbb)).trans y0, (hb.cell (p := ⟨(bd.add (j * 2)).block, (bd.add (j * 2)).off + 1, none⟩) (by rw [block_of_add]; exact hbb)).trans y1⟩))
          clear hR hmJ HO2
          go_wp2_with fail
          go_region_held3 (fun w' => (w'.cell? (ad.add (i * 2)) = some (.int .i64 a0) ∧ w'.cell? ⟨(ad.add (i * 2)).block, (ad.add (i * 2)).off + 1, none⟩ = some (.int .i64 a1)) ∧ w'.cell? (bd.add (j * 2)) = some (.int .i64 b0) ∧ w'.cell? ⟨(bd.add (j * 2)).block, (bd.add (j * 2)).off + 1, none⟩ = some (.int .i64 b1))
            ((first | exact KEEP.out _ cum2 | exact KEEP.out _ (Below.alloc (Below.drew (Below.refl _ _)) hwB _) | exact KEEP.out _ (Below.alloc (Below.refl _ _) hwB _) | exact KEEP.out _ (Below.drew (Below.refl _ _)) | exact KEEP.out _ (Below.refl _ _) | go_keep))
            ((first
              | (refine step_append_some (by rfl) (.tmp 20) (.tmp 44) _ (by rfl) w.heap.size 44 i0 _ 2 16 Try.underlying24 hi0 hz0 hz1 hz2 rfl (by omega) _ R.length (rowOf sendV R) (by rfl) (by first | exact World.ownsRow.alloc (OwnL.drew hO2) _ | exact World.ownsRow.alloc hO2 _) (some ⟨wr.heap.size, 0, none⟩) 1 1 [.int .i64 (a0 + b0), .int .i64 (a1 + b1)] (by rfl) (by rfl) (fun _ => ⟨_, rfl, World.news_of_block (cs := #[.int .i64 (a0 + b0), .int .i64 (a1 + b1)]) (t := 44) (fr := (0, 0)) (heap_alloc_new _ _)⟩) (by simp [Value.oneCell']) (by simp only [maxLen]; omega) (by omega) (by (first | omega | (simp; done) | (simp; omega))) ?_; intro v1 wa hown1 hgrow1 hat1; have cum2 : Below w.heap.size wr wa := Below.grown (by first | exact Below.alloc (Below.drew (Below.refl _ _)) hwB _ | exact Below.alloc (Below.refl _ _) hwB _) hgrow1 (by (first | omega | (simp; done) | (simp; omega))) (fun k hk => (OwnL.lt hO2 k hk).1))))
          all_goals have O5 := hidd (OwnL.snoc (f := sendV) (L := R) (x := (a0 + b0, a1 + b1)) hown1 rfl rfl)
          all_goals have C5 := hidd (HB2.out.trans cum2)
          all_goals clear hown1 hgrow1 hat1 cum2 x0 x1 y0 y1
          all_goals go_wp2_with fail
          all_goals have hg := HG2.out
          all_goals go_roundg (gk - 1)
          case measure => omega
          case rel => exact ⟨j + 1, by omega, by omega, by go_num, by rw [HMT.out, ← List.append_assoc, HRR.out]; exact O5.out, C5.out⟩
        · obtain rfl : j = nm := by omega
          go_wp2_with fail
          have hg := HG.out
          go_roundg (gko - 1)
          case measure => omega
          case rel => exact ⟨i + 1, by omega, by omega, by go_num, by rw [HPT.out]; have := HO2.out; rwa [show M.take j = M from List.take_of_length_le (by rw [HNM.out]; omega)] at this, HB2.out⟩
    · obtain rfl : i = nl := by omega
      go_wp2_with fail
      go_ret
      exact ⟨_, rfl, by have := HO.out; rwa [show L.take i = L from List.take_of_length_le (by rw [HNL.out]; omega)] at this, HB.out⟩
end Go.Proofs.Ytpgaklfgbioocaa

namespace Go.Proofs.Ytpgaklfgbioocaa
set_option linter.unusedVariables false
open Go.RowKit Go.Proofs.Ytpgaklfgbioocaa.RowK

theorem row_get : ∀ (L : List (Int × Int)) (j : Nat) (u : Value), (rowOf sendV L)[j]? = some u → ∃ i x r, L[i]? = some x ∧ j = i * 2 + r ∧ (sendV x)[r]? = some u
  | [], j, u, h => by simp [rowOf] at h
  | x :: L, j, u, h => by
    have e : rowOf sendV (x :: L) = sendV x ++ rowOf sendV L := by simp [rowOf]
    rw [e] at h
    by_cases hj : j < 2
    · rw [List.getElem?_append_left (by simpa [sendV] using hj)] at h
      exact ⟨0, x, j, by simp, by omega, h⟩
    · rw [List.getElem?_append_right (by simp [sendV]; omega)] at h
      obtain ⟨i, y, r, h1, h2, h3⟩ := row_get L (j - 2) u (by simpa [sendV] using h)
      exact ⟨i + 1, y, r, by simpa using h1, by omega, h3⟩
theorem lie_take {W : World} {B : Nat} {ad : Addr} {L : List (Int × Int)} (h : Lie sendV 2 W B (some ad) L) (k : Nat) : ∀ j u, (rowOf sendV (L.take k))[j]? = some u → W.cell? (ad.add j) = some u := fun j u hu => by
  obtain ⟨i, x, r, h1, rfl, h3⟩ := row_get _ j u hu
  have hx : L[i]? = some x := by
    rw [List.getElem?_take] at h1
    split at h1
    · exact h1
    · cases h1
  obtain ⟨ad', e, _, hc⟩ := h (by have := (List.getElem?_eq_some_iff.1 hx).1; omega)
  obtain rfl : ad = ad' := by injection e
  exact hc i x hx r u h3
theorem lie_drop {W : World} {B : Nat} {ad : Addr} {L : List (Int × Int)} (h : Lie sendV 2 W B (some ad) L) (k : Nat) : ∀ j u, (rowOf sendV (L.drop k))[j]? = some u → W.cell? ((ad.add (k * 2)).add j) = some u := fun j u hu => by
  obtain ⟨i, x, r, h1, rfl, h3⟩ := row_get _ j u hu
  have hx : L[k + i]? = some x := by rw [List.getElem?_drop] at h1; exact h1
  obtain ⟨ad', e, _, hc⟩ := h (by have := (List.getElem?_eq_some_iff.1 hx).1; omega)
  obtain rfl : ad = ad' := by injection e
  have := hc (k + i) x hx r u h3
  rw [add_of_add, show k * 2 + (i * 2 + r) = (k + i) * 2 + r by omega]
  exact this
theorem lie_all {W : World} {B : Nat} {A : Option Addr} {L : List (Int × Int)} (h : Lie sendV 2 W B A L) : 0 < L.length → ∃ ad, A = some ad ∧ ∀ j u, (rowOf sendV L)[j]? = some u → W.cell? (ad.add j) = some u := fun h0 => by
  obtain ⟨ad, rfl, _⟩ := h h0
  refine ⟨ad, rfl, fun j u hu => ?_⟩
  have := lie_take h L.length j u
  rw [List.take_length] at this
  exact this hu
def PutM (L : List (Int × Int)) (x : Int × Int) (M : List (Int × Int)) : Prop := Ups M ∧ (∀ y, y ∈ M ↔ y ∈ L ∨ y = x) ∧ M.length = L.length + 1
def PutEnd (L : List (Int × Int)) (x : Int × Int) (w : World) (e : Ending) (w' : World) : Prop := ∃ v M, e = .returned v ∧ OwnL sendV 2 w' w.heap.size 44 v M ∧ PutM L x M ∧ Below w.heap.size w w'
theorem line_new (w : World) (x y : Int) (t : TypeId) : LineBox (w.alloc (.cells #[.int .i64 x, .int .i64 y] t)) w.heap.size x y ∧ Below w.heap.size w (w.alloc (.cells #[.int .i64 x, .int .i64 y] t)) :=
  ⟨⟨by simp, by simp [go_sem], by simp [go_sem]⟩, below_new (Below.refl w.heap.size w) _⟩
set_option maxRecDepth 100000 in
set_option maxHeartbeats 4000000 in
theorem put_any (A : Option Addr) (L : List (Int × Int)) (c : Nat) (X Y : Int) (hL : L.length ≤ 1000) (hc : L.length ≤ c) (hcm : c ≤ maxLen) (hU : Ups L) (w : World) (hA : Lie sendV 2 w w.heap.size A L) :
    Calls Try.prog 43 #[.slice A L.length c, .agg #[.int .i64 X, .int .i64 Y]] w (PutEnd L (X, Y) w) := by
  have HA := hidd hA
  have HU := hidd hU
  have LN := hidd (line_new w X Y 44)
  have hmx : (maxLen : Nat) = 2 ^ 63 - 1 := rfl
  obtain ⟨i0, hi, hz0, hz1, hz2⟩ := info_parts lineInfo
  unfold PutEnd
  clear hA hU
  obtain ⟨b1, b2, b3⟩ := LN.out.1
  go_enter Try.func43, Try.ntmps43
  go_wp2_with fail
  go_loopg [5] (L.length + 1) (fun g s5 wr => ∃ k : Nat, k ≤ L.length ∧ k + g = L.length + 1 ∧ s5 = .int .i64 (k : Int) ∧ Hid (∀ j, j < k → UpR (SM.av L j, SM.sv L j) (X, Y)) ∧ Below w.heap.size w wr ∧ LineBox wr w.heap.size X Y)
  case atStart => exact ⟨0, by omega, by omega, by first | rfl | simp, hidd (fun j h => absurd h (by omega)), LN.out.2, LN.out.1⟩
  case round =>
    obtain ⟨k, hk1, hg, rfl, HS, hB, hX⟩ := hrel
    have HG := hidd hg
    have HB := hidd hB
    have HX := hidd hX
    clear hg hB b1 b2 b3
    obtain ⟨b1, b2, b3⟩ := hX
    have hk0 : (0 : Int) ≤ (k : Int) := by omega
    have hend : (k = L.length ∨ ∃ h : k < L.length, ¬ UpR (SM.av L k, SM.sv L k) (X, Y)) → (k < L.length → ¬ UpR (SM.av L k, SM.sv L k) (X, Y)) := fun h hk => h.elim (fun e => absurd hk (by omega)) (fun ⟨_, g⟩ => g)
    by_cases hlt : k < L.length
    · obtain ⟨ad, rfl, hab, y0, y1⟩ := (HA.out.below HB.out).send k hlt
      rw [(av_at hlt).1] at y0
      rw [(av_at hlt).2] at y1
      have hin2 : (k : Int) < (L.length : Int) := by omega
      have hj : IntKind.i64.wrap ((k : Int) + 1) = (k : Int) + 1 := IntWalk.i64_in _ (by omega)
      obtain ⟨p, hp⟩ : ∃ p, SM.av L k = p := ⟨_, rfl⟩
      obtain ⟨q, hq⟩ : ∃ q, SM.sv L k = q := ⟨_, rfl⟩
      rw [hp] at y0 hend
      rw [hq] at y1 hend
      have HP := hidd hp
      have HQ := hidd hq
      clear hp hq
      have hstep : UpR (p, q) (X, Y) → ∀ j, j < k + 1 → UpR (SM.av L j, SM.sv L j) (X, Y) := fun h j hj => by
        by_cases e : j = k
        · subst e; rw [HP.out, HQ.out]; exact h
        · exact HS.out j (by omega)
      have HST := hidd hstep
      have HE := hidd hend
      clear hstep hend
      by_cases h1 : p < X
      · have hup : UpR (p, q) (X, Y) := .inl h1
        have HUP := hidd (HST.out hup)
        clear hup
        go_wp2_with fail
        go_quiet (fail)
        go_wp2_with fail
        have hg := HG.out
        have hB := HB.out
        go_roundg (gk - 1)
        case measure => omega
        case rel => exact ⟨k + 1, by omega, by omega, by go_num, HUP, by (repeat' (first | (with_reducible exact Below.refl _ _) | (with_reducible assumption) | (with_reducible apply Below.setCell) | (with_reducible apply Below.alloc) | (with_reducible apply Below.drew) | (with_reducible apply below_drewN) | (with_reducible refine Below.trans ?_ (Below.mono (by assumption) ?_)) | omega | (simp; done) | (simp; omega))), HX.out.step (by (repeat' (first | (with_reducible exact Below.refl _ _) | (with_reducible assumption) | (with_reducible apply Below.setCell) | (with_reducible apply Below.alloc) | (with_reducible apply Below.drew) | (with_reducible apply below_drewN) | (with_reducible refine Below.trans ?_ (Below.mono (by assumption) ?_)) | omega | (simp; done) | (simp; omega))))⟩
      · by_cases h2 : p = X
        · subst h2
          by_cases h3 : q ≤ Y
          · have hup : UpR (p, q) (p, Y) := .inr ⟨rfl, h3⟩
            have HUP := hidd (HST.out hup)
            clear hup
            go_wp2_with fail
            go_quiet (fail)
            go_wp2_with fail
            have hg := HG.out
            have hB := HB.out
            go_roundg (gk - 1)
            case measure => omega
            case rel => exact ⟨k + 1, by omega, by omega, by go_num, HUP, by (repeat' (first | (with_reducible exact Below.refl _ _) | (with_reducible assumption) | (with_reducible apply Below.setCell) | (with_reducible apply Below.alloc) | (with_reducible apply Below.drew) | (with_reducible apply below_drewN) | (with_reducible refine Below.trans ?_ (Below.mono (by assumption) ?_)) | omega | (simp; done) | (simp; omega))), HX.out.step (by (repeat' (first | (with_reducible exact Below.refl _ _) | (with_reducible assumption) | (with_reducible apply Below.setCell) | (with_reducible apply Below.alloc) | (with_reducible apply Below.drew) | (with_reducible apply below_drewN) | (with_reducible refine Below.trans ?_ (Below.mono (by assumption) ?_)) | omega | (simp; done) | (simp; omega))))⟩
          · have hend : k < L.length → ¬ UpR (SM.av L k, SM.sv L k) (p, Y) := fun _ => by rw [HP.out, HQ.out]; exact fun h => h.elim (fun h => absurd h (by simp)) (fun h => h3 h.2)
            have HEND := hidd hend
            clear hend HST HE HP HQ
            go_wp2_with fail
            go_quiet (fail)
            have hBW : Below w.heap.size w (wr.drewN nq) := by have hB := HB.out; (repeat' (first | (with_reducible exact Below.refl _ _) | (with_reducible assumption) | (with_reducible apply Below.setCell) | (with_reducible apply Below.alloc) | (with_reducible apply Below.drew) | (with_reducible apply below_drewN) | (with_reducible refine Below.trans ?_ (Below.mono (by assumption) ?_)) | omega | (simp; done) | (simp; omega)))
            have hXW := HX.out.step (show Below wr.heap.size wr (wr.drewN nq) by (repeat' (first | (with_reducible exact Below.refl _ _) | (with_reducible assumption) | (with_reducible apply Below.setCell) | (with_reducible apply Below.alloc) | (with_reducible apply Below.drew) | (with_reducible apply below_drewN) | (with_reducible refine Below.trans ?_ (Below.mono (by assumption) ?_)) | omega | (simp; done) | (simp; omega))))
            generalize wr.drewN nq = W0 at *
            go_wp2_with fail
            have hk0' : (k : Int) ≤ (L.length : Int) := by omega
            have hkc : (k : Int) ≤ (c : Int) := by omega
            have hlc : (L.length : Int) ≤ (c : Int) := by omega
            have hck : ¬ c = k := by omega
            have hWs := hBW.size
            have hAW := hidd (HA.out.below hBW)
            have SRC1 := hidd (fun W' (hb : Below W0.heap.size W0 W') => (fun (_ : 0 < k) => (⟨ad, rfl, lie_take (hAW.out.below hb) k⟩ : ∃ a, some ad = some a ∧ ∀ j u, (rowOf sendV (L.take k))[j]? = some u → W'.cell? (a.add j) = some u)))
            have SRC2 := hidd (fun W' (hb : Below W0.heap.size W0 W') => (fun (_ : 0 < L.length - k) => (⟨ad.add (k * 2), rfl, lie_drop (hAW.out.below hb) k⟩ : ∃ a, some (ad.add (k * 2)) = some a ∧ ∀ j u, (rowOf sendV (L.drop k))[j]? = some u → W'.cell? (a.add j) = some u)))
            have KX := hidd (fun W' (hb : Below W0.heap.size W0 W') => (hXW.step hb).2)
            obtain ⟨bx1, bx2, bx3⟩ := hXW
            have ek : (L.take k).length = k := by simp; try omega
            go_region_held3 (fun w' => w'.cell? ⟨w.heap.size, 0, none⟩ = some (.int .i64 p) ∧ w'.cell? ⟨w.heap.size, 1, none⟩ = some (.int .i64 Y))
              ((first | exact KX.out _ hb3 | exact KX.out _ hb2 | exact KX.out _ hb1 | exact KX.out _ (by (repeat' (first | (with_reducible exact Below.refl _ _) | (with_reducible assumption) | (with_reducible apply Below.setCell) | (with_reducible apply Below.alloc) | (with_reducible apply Below.drew) | (with_reducible apply below_drewN) | (with_reducible refine Below.trans ?_ (Below.mono (by assumption) ?_)) | omega | (simp; done) | (simp; omega))))))
              ((first
                | (refine step_append_some (by rfl) (.const (.slice none 0 0)) (.tmp 44) _ (by rfl) W0.heap.size 44 i0 _ 2 16 Try.underlying25 hi hz0 hz1 hz2 rfl (by omega) (.slice none 0 0) 0 [] (by rfl) (World.ownsRow_nil _ _ _ _) (some ad) k c (rowOf sendV (L.take k)) (by rfl) (by rw [row_len sendV_len, ek]) (SRC1.out _ (by (repeat' (first | (with_reducible exact Below.refl _ _) | (with_reducible assumption) | (with_reducible apply Below.setCell) | (with_reducible apply Below.alloc) | (with_reducible apply Below.drew) | (with_reducible apply below_drewN) | (with_reducible refine Below.trans ?_ (Below.mono (by assumption) ?_)) | omega | (simp; done) | (simp; omega))))) (rowOf_one sendV_one _) (by simp only [maxLen]; omega) (by omega) (by (first | omega | (simp; done) | (simp; omega))) ?_; intro v1 wa hown1 hgrow1 hat1; have hb1 : Below W0.heap.size W0 wa := Below.grown (by (repeat' (first | (with_reducible exact Below.refl _ _) | (with_reducible assumption) | (with_reducible apply Below.setCell) | (with_reducible apply Below.alloc) | (with_reducible apply Below.drew) | (with_reducible apply below_drewN) | (with_reducible refine Below.trans ?_ (Below.mono (by assumption) ?_)) | omega | (simp; done) | (simp; omega)))) hgrow1 (by (first | omega | (simp; done) | (simp; omega))) (by intro k hk; simp [Value.ownBlock] at hk); have hz1' := Below.size hb1)
                | (refine step_append_some (by rfl) (.tmp 45) (.tmp 47) _ (by rfl) W0.heap.size 44 i0 _ 2 16 Try.underlying25 hi hz0 hz1 hz2 rfl (by omega) v1 (0 + k) ([] ++ rowOf sendV (L.take k)) (by rfl) (World.ownsRow.alloc hown1 _) (some ⟨wa.heap.size, 0, none⟩) 1 1 [.int .i64 p, .int .i64 Y] (by rfl) (by rfl) (fun _ => ⟨_, rfl, World.news_of_block (cs := #[.int .i64 p, .int .i64 Y]) (t := 44) (fr := (0, 0)) (heap_alloc_new wa _)⟩) (by simp [Value.oneCell']) (by simp only [maxLen]; omega) (by omega) (by (first | omega | (simp; done) | (simp; omega))) ?_; intro v2 wb hown2 hgrow2 hat2; have hb2 : Below W0.heap.size W0 wb := Below.grown (by (repeat' (first | (with_reducible exact Below.refl _ _) | (with_reducible assumption) | (with_reducible apply Below.setCell) | (with_reducible apply Below.alloc) | (with_reducible apply Below.drew) | (with_reducible apply below_drewN) | (with_reducible refine Below.trans ?_ (Below.mono (by assumption) ?_)) | omega | (simp; done) | (simp; omega)))) hgrow2 (by (first | omega | (simp; done) | (simp; omega))) (fun k hk => (World.ownsRow.lt hown1 k hk).1); have hz2' := Below.size hb2)
                | (refine step_append_some (by rfl) (.tmp 45) (.tmp 47) _ (by rfl) W0.heap.size 44 i0 _ 2 16 Try.underlying25 hi hz0 hz1 hz2 rfl (by omega) v1 (0 + k) ([] ++ rowOf sendV (L.take k)) (by rfl) hown1 (some ⟨W0.heap.size, 0, none⟩) 1 1 [.int .i64 p, .int .i64 Y] (by rfl) (by rfl) (fun _ => ⟨_, rfl, World.news_of_block (cs := #[.int .i64 p, .int .i64 Y]) (t := 44) (fr := (0, 0)) ((hgrow1.block W0.heap.size (by simp) (by simp [Value.ownBlock])).trans (heap_alloc_new W0 _))⟩) (by simp [Value.oneCell']) (by simp only [maxLen]; omega) (by omega) (by (first | omega | (simp; done) | (simp; omega))) ?_; intro v2 wb hown2 hgrow2 hat2; have hb2 : Below W0.heap.size W0 wb := Below.grown hb1 hgrow2 (by (first | omega | (simp; done) | (simp; omega))) (fun k hk => (World.ownsRow.lt hown1 k hk).1); have hz2' := Below.size hb2)
                | (refine step_append_some (by rfl) (.tmp 48) (.tmp 51) _ (by rfl) W0.heap.size 44 i0 _ 2 16 Try.underlying25 hi hz0 hz1 hz2 rfl (by omega) v2 (0 + k + 1) ([] ++ rowOf sendV (L.take k) ++ [.int .i64 p, .int .i64 Y]) (by rfl) hown2 (some (ad.add (k * 2))) (L.length - k) (c - k) (rowOf sendV (L.drop k)) (by rfl) (by rw [row_len sendV_len, List.length_drop]; try omega) (SRC2.out _ hb2) (rowOf_one sendV_one _) (by simp only [maxLen]; omega) (by omega) (by (first | omega | (simp; done) | (simp; omega))) ?_; intro v3 wc hown3 hgrow3 hat3; have hb3 : Below W0.heap.size W0 wc := Below.grown hb2 hgrow3 (by (first | omega | (simp; done) | (simp; omega))) (fun k hk => (World.ownsRow.lt hown2 k hk).1); have hz3' := Below.size hb3)))
            all_goals go_wp2_with fail
            all_goals (
              have hO : OwnL sendV 2 wc w.heap.size 44 v3 (putL L (p, Y) k) := OwnL.base (by
                unfold OwnL
                rw [putL_len (by omega)]
                have e : rowOf sendV (putL L (p, Y) k) = [] ++ rowOf sendV (L.take k) ++ [.int .i64 p, .int .i64 Y] ++ rowOf sendV (L.drop k) := by simp [rowOf, putL, sendV]
                rw [e]
                have h := hown3
                rw [show 0 + k + 1 + (L.length - k) = L.length + 1 by omega] at h
                exact h) hWs
              go_ret
              have hPM : PutM L (p, Y) (putL L (p, Y) k) := ⟨putL_ups HU.out (by omega) HS.out HEND.out, fun y => putL_mem y, putL_len (by omega)⟩
              have hFB := below_step hBW hb3
              first | exact ⟨_, _, rfl, hO, hPM, hFB⟩ | exact ⟨_, rfl, _, hO, hPM, hFB⟩ | (refine ⟨v3, _, ?_, hO, hPM, hFB⟩; first | rfl | simp))
        · have hend : k < L.length → ¬ UpR (SM.av L k, SM.sv L k) (X, Y) := fun _ => by rw [HP.out, HQ.out]; exact fun h => h.elim (fun h => h1 h) (fun h => h2 h.1)
          have HEND := hidd hend
          clear hend HST HE HP HQ
          go_wp2_with fail
          go_quiet (fail)
          have hBW : Below w.heap.size w (wr.drewN nq) := by have hB := HB.out; (repeat' (first | (with_reducible exact Below.refl _ _) | (with_reducible assumption) | (with_reducible apply Below.setCell) | (with_reducible apply Below.alloc) | (with_reducible apply Below.drew) | (with_reducible apply below_drewN) | (with_reducible refine Below.trans ?_ (Below.mono (by assumption) ?_)) | omega | (simp; done) | (simp; omega)))
          have hXW := HX.out.step (show Below wr.heap.size wr (wr.drewN nq) by (repeat' (first | (with_reducible exact Below.refl _ _) | (with_reducible assumption) | (with_reducible apply Below.setCell) | (with_reducible apply Below.alloc) | (with_reducible apply Below.drew) | (with_reducible apply below_drewN) | (with_reducible refine Below.trans ?_ (Below.mono (by assumption) ?_)) | omega | (simp; done) | (simp; omega))))
          generalize wr.drewN nq = W0 at *
          go_wp2_with fail
          have hk0' : (k : Int) ≤ (L.length : Int) := by omega
          have hkc : (k : Int) ≤ (c : Int) := by omega
          have hlc : (L.length : Int) ≤ (c : Int) := by omega
          have hck : ¬ c = k := by omega
          have hWs := hBW.size
          have hAW := hidd (HA.out.below hBW)
          have SRC1 := hidd (fun W' (hb : Below W0.heap.size W0 W') => (fun (_ : 0 < k) => (⟨ad, rfl, lie_take (hAW.out.below hb) k⟩ : ∃ a, some ad = some a ∧ ∀ j u, (rowOf sendV (L.take k))[j]? = some u → W'.cell? (a.add j) = some u)))
          have SRC2 := hidd (fun W' (hb : Below W0.heap.size W0 W') => (fun (_ : 0 < L.length - k) => (⟨ad.add (k * 2), rfl, lie_drop (hAW.out.below hb) k⟩ : ∃ a, some (ad.add (k * 2)) = some a ∧ ∀ j u, (rowOf sendV (L.drop k))[j]? = some u → W'.cell? (a.add j) = some u)))
          have KX := hidd (fun W' (hb : Below W0.heap.size W0 W') => (hXW.step hb).2)
          obtain ⟨bx1, bx2, bx3⟩ := hXW
          have ek : (L.take k).length = k := by simp; try omega
          go_region_held3 (fun w' => w'.cell? ⟨w.heap.size, 0, none⟩ = some (.int .i64 X) ∧ w'.cell? ⟨w.heap.size, 1, none⟩ = some (.int .i64 Y))
            ((first | exact KX.out _ hb3 | exact KX.out _ hb2 | exact KX.out _ hb1 | exact KX.out _ (by (repeat' (first | (with_reducible exact Below.refl _ _) | (with_reducible assumption) | (with_reducible apply Below.setCell) | (with_reducible apply Below.alloc) | (with_reducible apply Below.drew) | (with_reducible apply below_drewN) | (with_reducible refine Below.trans ?_ (Below.mono (by assumption) ?_)) | omega | (simp; done) | (simp; omega))))))
            ((first
              | (refine step_append_some (by rfl) (.const (.slice none 0 0)) (.tmp 44) _ (by rfl) W0.heap.size 44 i0 _ 2 16 Try.underlying25 hi hz0 hz1 hz2 rfl (by omega) (.slice none 0 0) 0 [] (by rfl) (World.ownsRow_nil _ _ _ _) (some ad) k c (rowOf sendV (L.take k)) (by rfl) (by rw [row_len sendV_len, ek]) (SRC1.out _ (by (repeat' (first | (with_reducible exact Below.refl _ _) | (with_reducible assumption) | (with_reducible apply Below.setCell) | (with_reducible apply Below.alloc) | (with_reducible apply Below.drew) | (with_reducible apply below_drewN) | (with_reducible refine Below.trans ?_ (Below.mono (by assumption) ?_)) | omega | (simp; done) | (simp; omega))))) (rowOf_one sendV_one _) (by simp only [maxLen]; omega) (by omega) (by (first | omega | (simp; done) | (simp; omega))) ?_; intro v1 wa hown1 hgrow1 hat1; have hb1 : Below W0.heap.size W0 wa := Below.grown (by (repeat' (first | (with_reducible exact Below.refl _ _) | (with_reducible assumption) | (with_reducible apply Below.setCell) | (with_reducible apply Below.alloc) | (with_reducible apply Below.drew) | (with_reducible apply below_drewN) | (with_reducible refine Below.trans ?_ (Below.mono (by assumption) ?_)) | omega | (simp; done) | (simp; omega)))) hgrow1 (by (first | omega | (simp; done) | (simp; omega))) (by intro k hk; simp [Value.ownBlock] at hk); have hz1' := Below.size hb1)
              | (refine step_append_some (by rfl) (.tmp 45) (.tmp 47) _ (by rfl) W0.heap.size 44 i0 _ 2 16 Try.underlying25 hi hz0 hz1 hz2 rfl (by omega) v1 (0 + k) ([] ++ rowOf sendV (L.take k)) (by rfl) (World.ownsRow.alloc hown1 _) (some ⟨wa.heap.size, 0, none⟩) 1 1 [.int .i64 X, .int .i64 Y] (by rfl) (by rfl) (fun _ => ⟨_, rfl, World.news_of_block (cs := #[.int .i64 X, .int .i64 Y]) (t := 44) (fr := (0, 0)) (heap_alloc_new wa _)⟩) (by simp [Value.oneCell']) (by simp only [maxLen]; omega) (by omega) (by (first | omega | (simp; done) | (simp; omega))) ?_; intro v2 wb hown2 hgrow2 hat2; have hb2 : Below W0.heap.size W0 wb := Below.grown (by (repeat' (first | (with_reducible exact Below.refl _ _) | (with_reducible assumption) | (with_reducible apply Below.setCell) | (with_reducible apply Below.alloc) | (with_reducible apply Below.drew) | (with_reducible apply below_drewN) | (with_reducible refine Below.trans ?_ (Below.mono (by assumption) ?_)) | omega | (simp; done) | (simp; omega)))) hgrow2 (by (first | omega | (simp; done) | (simp; omega))) (fun k hk => (World.ownsRow.lt hown1 k hk).1); have hz2' := Below.size hb2)
              | (refine step_append_some (by rfl) (.tmp 45) (.tmp 47) _ (by rfl) W0.heap.size 44 i0 _ 2 16 Try.underlying25 hi hz0 hz1 hz2 rfl (by omega) v1 (0 + k) ([] ++ rowOf sendV (L.take k)) (by rfl) hown1 (some ⟨W0.heap.size, 0, none⟩) 1 1 [.int .i64 X, .int .i64 Y] (by rfl) (by rfl) (fun _ => ⟨_, rfl, World.news_of_block (cs := #[.int .i64 X, .int .i64 Y]) (t := 44) (fr := (0, 0)) ((hgrow1.block W0.heap.size (by simp) (by simp [Value.ownBlock])).trans (heap_alloc_new W0 _))⟩) (by simp [Value.oneCell']) (by simp only [maxLen]; omega) (by omega) (by (first | omega | (simp; done) | (simp; omega))) ?_; intro v2 wb hown2 hgrow2 hat2; have hb2 : Below W0.heap.size W0 wb := Below.grown hb1 hgrow2 (by (first | omega | (simp; done) | (simp; omega))) (fun k hk => (World.ownsRow.lt hown1 k hk).1); have hz2' := Below.size hb2)
              | (refine step_append_some (by rfl) (.tmp 48) (.tmp 51) _ (by rfl) W0.heap.size 44 i0 _ 2 16 Try.underlying25 hi hz0 hz1 hz2 rfl (by omega) v2 (0 + k + 1) ([] ++ rowOf sendV (L.take k) ++ [.int .i64 X, .int .i64 Y]) (by rfl) hown2 (some (ad.add (k * 2))) (L.length - k) (c - k) (rowOf sendV (L.drop k)) (by rfl) (by rw [row_len sendV_len, List.length_drop]; try omega) (SRC2.out _ hb2) (rowOf_one sendV_one _) (by simp only [maxLen]; omega) (by omega) (by (first | omega | (simp; done) | (simp; omega))) ?_; intro v3 wc hown3 hgrow3 hat3; have hb3 : Below W0.heap.size W0 wc := Below.grown hb2 hgrow3 (by (first | omega | (simp; done) | (simp; omega))) (fun k hk => (World.ownsRow.lt hown2 k hk).1); have hz3' := Below.size hb3)))
          all_goals go_wp2_with fail
          all_goals (
            have hO : OwnL sendV 2 wc w.heap.size 44 v3 (putL L (X, Y) k) := OwnL.base (by
              unfold OwnL
              rw [putL_len (by omega)]
              have e : rowOf sendV (putL L (X, Y) k) = [] ++ rowOf sendV (L.take k) ++ [.int .i64 X, .int .i64 Y] ++ rowOf sendV (L.drop k) := by simp [rowOf, putL, sendV]
              rw [e]
              have h := hown3
              rw [show 0 + k + 1 + (L.length - k) = L.length + 1 by omega] at h
              exact h) hWs
            go_ret
            have hPM : PutM L (X, Y) (putL L (X, Y) k) := ⟨putL_ups HU.out (by omega) HS.out HEND.out, fun y => putL_mem y, putL_len (by omega)⟩
            have hFB := below_step hBW hb3
            first | exact ⟨_, _, rfl, hO, hPM, hFB⟩ | exact ⟨_, rfl, _, hO, hPM, hFB⟩ | (refine ⟨v3, _, ?_, hO, hPM, hFB⟩; first | rfl | simp))
    · obtain rfl : k = L.length := by omega
      have hend : L.length < L.length → ¬ UpR (SM.av L L.length, SM.sv L L.length) (X, Y) := fun h => absurd h (by omega)
      have HEND := hidd hend
      have hEX := LN
      clear hend
      go_wp2_with fail
      go_quiet (fail)
      have hBW : Below w.heap.size w (wr.drewN nq) := by have hB := HB.out; (repeat' (first | (with_reducible exact Below.refl _ _) | (with_reducible assumption) | (with_reducible apply Below.setCell) | (with_reducible apply Below.alloc) | (with_reducible apply Below.drew) | (with_reducible apply below_drewN) | (with_reducible refine Below.trans ?_ (Below.mono (by assumption) ?_)) | omega | (simp; done) | (simp; omega)))
      have hXW := HX.out.step (show Below wr.heap.size wr (wr.drewN nq) by (repeat' (first | (with_reducible exact Below.refl _ _) | (with_reducible assumption) | (with_reducible apply Below.setCell) | (with_reducible apply Below.alloc) | (with_reducible apply Below.drew) | (with_reducible apply below_drewN) | (with_reducible refine Below.trans ?_ (Below.mono (by assumption) ?_)) | omega | (simp; done) | (simp; omega))))
      generalize wr.drewN nq = W0 at *
      go_wp2_with fail
      have hlc : (L.length : Int) ≤ (c : Int) := by omega
      have hWs := hBW.size
      obtain ⟨bx1, bx2, bx3⟩ := hXW
      have KX := hidd (fun W' (hb : Below W0.heap.size W0 W') => (LineBox.step ⟨bx1, bx2, bx3⟩ hb).2)
      have hAW := hidd (HA.out.below hBW)
      have SRC := hidd (fun W' (hb : Below W0.heap.size W0 W') => lie_all (hAW.out.below hb))
      go_region_held3 (fun w' => w'.cell? ⟨w.heap.size, 0, none⟩ = some (.int .i64 X) ∧ w'.cell? ⟨w.heap.size, 1, none⟩ = some (.int .i64 Y))
              ((first | exact KX.out _ hb3 | exact KX.out _ hb2 | exact KX.out _ hb1 | exact KX.out _ (by (repeat' (first | (with_reducible exact Below.refl _ _) | (with_reducible assumption) | (with_reducible apply Below.setCell) | (with_reducible apply Below.alloc) | (with_reducible apply Below.drew) | (with_reducible apply below_drewN) | (with_reducible refine Below.trans ?_ (Below.mono (by assumption) ?_)) | omega | (simp; done) | (simp; omega))))))
              ((first
                | (refine step_append_some (by rfl) (.const (.slice none 0 0)) (.tmp 44) _ (by rfl) W0.heap.size 44 i0 _ 2 16 Try.underlying25 hi hz0 hz1 hz2 rfl (by omega) (.slice none 0 0) 0 [] (by rfl) (World.ownsRow_nil _ _ _ _) A L.length c (rowOf sendV L) (by rfl) (by rw [row_len sendV_len]) (SRC.out _ (by (repeat' (first | (with_reducible exact Below.refl _ _) | (with_reducible assumption) | (with_reducible apply Below.setCell) | (with_reducible apply Below.alloc) | (with_reducible apply Below.drew) | (with_reducible apply below_drewN) | (with_reducible refine Below.trans ?_ (Below.mono (by assumption) ?_)) | omega | (simp; done) | (simp; omega))))) (rowOf_one sendV_one _) (by simp only [maxLen]; omega) (by omega) (by (first | omega | (simp; done) | (simp; omega))) ?_; intro v1 wa hown1 hgrow1 hat1; have hb1 : Below W0.heap.size W0 wa := Below.grown (by (repeat' (first | (with_reducible exact Below.refl _ _) | (with_reducible assumption) | (with_reducible apply Below.setCell) | (with_reducible apply Below.alloc) | (with_reducible apply Below.drew) | (with_reducible apply below_drewN) | (with_reducible refine Below.trans ?_ (Below.mono (by assumption) ?_)) | omega | (simp; done) | (simp; omega)))) hgrow1 (by (first | omega | (simp; done) | (simp; omega))) (by intro k hk; simp [Value.ownBlock] at hk); have hz1' := Below.size hb1)
                | (refine step_append_some (by rfl) (.tmp 45) (.tmp 47) _ (by rfl) W0.heap.size 44 i0 _ 2 16 Try.underlying25 hi hz0 hz1 hz2 rfl (by omega) v1 (0 + L.length) ([] ++ rowOf sendV L) (by rfl) (World.ownsRow.alloc hown1 _) (some ⟨wa.heap.size, 0, none⟩) 1 1 [.int .i64 X, .int .i64 Y] (by rfl) (by rfl) (fun _ => ⟨_, rfl, World.news_of_block (cs := #[.int .i64 X, .int .i64 Y]) (t := 44) (fr := (0, 0)) (heap_alloc_new wa _)⟩) (by simp [Value.oneCell']) (by simp only [maxLen]; omega) (by omega) (by (first | omega | (simp; done) | (simp; omega))) ?_; intro v2 wb hown2 hgrow2 hat2; have hb2 : Below W0.heap.size W0 wb := Below.grown (by (repeat' (first | (with_reducible exact Below.refl _ _) | (with_reducible assumption) | (with_reducible apply Below.setCell) | (with_reducible apply Below.alloc) | (with_reducible apply Below.drew) | (with_reducible apply below_drewN) | (with_reducible refine Below.trans ?_ (Below.mono (by assumption) ?_)) | omega | (simp; done) | (simp; omega)))) hgrow2 (by (first | omega | (simp; done) | (simp; omega))) (fun k hk => (World.ownsRow.lt hown1 k hk).1); have hz2' := Below.size hb2)
                | (refine step_append_some (by rfl) (.tmp 45) (.tmp 47) _ (by rfl) W0.heap.size 44 i0 _ 2 16 Try.underlying25 hi hz0 hz1 hz2 rfl (by omega) v1 (0 + L.length) ([] ++ rowOf sendV L) (by rfl) hown1 (some ⟨W0.heap.size, 0, none⟩) 1 1 [.int .i64 X, .int .i64 Y] (by rfl) (by rfl) (fun _ => ⟨_, rfl, World.news_of_block (cs := #[.int .i64 X, .int .i64 Y]) (t := 44) (fr := (0, 0)) ((hgrow1.block W0.heap.size (by simp) (by simp [Value.ownBlock])).trans (heap_alloc_new W0 _))⟩) (by simp [Value.oneCell']) (by simp only [maxLen]; omega) (by omega) (by (first | omega | (simp; done) | (simp; omega))) ?_; intro v2 wb hown2 hgrow2 hat2; have hb2 : Below W0.heap.size W0 wb := Below.grown hb1 hgrow2 (by (first | omega | (simp; done) | (simp; omega))) (fun k hk => (World.ownsRow.lt hown1 k hk).1); have hz2' := Below.size hb2)
                | (refine step_append_some (by rfl) (.tmp 48) (.tmp 51) _ (by rfl) W0.heap.size 44 i0 _ 2 16 Try.underlying25 hi hz0 hz1 hz2 rfl (by omega) v2 (0 + L.length + 1) ([] ++ rowOf sendV L ++ [.int .i64 X, .int .i64 Y]) (by rfl) hown2 (if c = L.length then A else Option.map (fun x => x.add (L.length * 2)) A) 0 (c - L.length) [] (by rfl) rfl (fun h => absurd h (by omega)) (by simp) (by simp only [maxLen]; omega) (by omega) (by (first | omega | (simp; done) | (simp; omega))) ?_; intro v3 wc hown3 hgrow3 hat3; have hb3 : Below W0.heap.size W0 wc := Below.grown hb2 hgrow3 (by (first | omega | (simp; done) | (simp; omega))) (fun k hk => (World.ownsRow.lt hown2 k hk).1); have hz3' := Below.size hb3)))
      all_goals go_wp2_with fail
      all_goals (
              have hO : OwnL sendV 2 wc w.heap.size 44 v3 (putL L (X, Y) L.length) := OwnL.base (by
                unfold OwnL
                rw [putL_len (by omega)]
                have e : rowOf sendV (putL L (X, Y) L.length) = [] ++ rowOf sendV L ++ [.int .i64 X, .int .i64 Y] ++ [] := by simp [rowOf, putL, sendV]
                rw [e]
                have h := hown3
                rw [show 0 + L.length + 1 + 0 = L.length + 1 by omega] at h
                exact h) hWs
              go_ret
              have hPM : PutM L (X, Y) (putL L (X, Y) L.length) := ⟨putL_ups HU.out (by omega) HS.out HEND.out, fun y => putL_mem y, putL_len (by omega)⟩
              have hFB := below_step hBW hb3
              first | exact ⟨_, _, rfl, hO, hPM, hFB⟩ | exact ⟨_, rfl, _, hO, hPM, hFB⟩ | (refine ⟨v3, _, ?_, hO, hPM, hFB⟩; first | rfl | simp))
end Go.Proofs.Ytpgaklfgbioocaa

namespace Go.Proofs.Ytpgaklfgbioocaa
set_option linter.unusedVariables false
open Go.RowKit Go.Proofs.Ytpgaklfgbioocaa.RowK

/-- what has been put so far. -/
def SoFar (L : List (Int × Int)) (i : Nat) (M : List (Int × Int)) : Prop := Ups M ∧ (∀ y, y ∈ M ↔ y ∈ L.take i) ∧ M.length = i
theorem sofar_put {L M N : List (Int × Int)} {i : Nat} (hi : i < L.length) (h : SoFar L i M) (g : PutM M (SM.av L i, SM.sv L i) N) : SoFar L (i + 1) N := by
  refine ⟨g.1, fun y => ?_, by rw [g.2.2, h.2.2]⟩
  rw [g.2.1 y, h.2.1 y, take_one hi, List.mem_append, List.mem_singleton]
/-- what is left of it: as low, everywhere. -/
def Left (L : List (Int × Int)) (M : List (Int × Int)) : Prop := Ups M ∧ 0 < M.length ∧ M.length ≤ L.length ∧ (∀ y, y ∈ M → y ∈ L) ∧ ∀ N D v, 0 ≤ N → 0 ≤ D → (CM.IsMin M N D v ↔ CM.IsMin L N D v)
theorem left_start {L M : List (Int × Int)} (h0 : 0 < L.length) (h : SoFar L L.length M) : Left L M := by
  have hm : ∀ y, y ∈ M ↔ y ∈ L := fun y => by have := h.2.1 y; rwa [List.take_length] at this
  refine ⟨h.1, by rw [h.2.2]; exact h0, by rw [h.2.2]; exact Nat.le_refl _, fun y hy => (hm y).1 hy, fun N D v _ _ => CM.IsMin.mem hm⟩
theorem left_gone {L M : List (Int × Int)} {g : Nat} (hg : g < M.length) (h : Left L M) (hG : GoneAt M g) : Left L (M.eraseIdx g) := by
  have h0 : 0 < g := by rcases hG with h | h; exact h.1; exact h.1
  have hl : (M.eraseIdx g).length = M.length - 1 := by rw [List.length_eraseIdx]; simp [hg]
  refine ⟨erase_ups h.1, by rw [hl]; omega, by rw [hl]; have := h.2.2.1; omega, fun y hy => h.2.2.2.1 y (List.mem_of_mem_eraseIdx hy), fun N D v a b => ?_⟩
  rw [erase_min h.1 hg hG a b]
  exact h.2.2.2.2 N D v a b
theorem left_end {L M : List (Int × Int)} (h : Left L M) (hn : ∀ i, i < M.length → ¬ GoneAt M i) : M = CM.low L := by
  have hne : L ≠ [] := fun e => by
    obtain ⟨x, hx⟩ := List.length_pos_iff_exists_mem.1 h.2.1
    have := h.2.2.2.1 x hx
    rw [e] at this
    simp at this
  exact least_eq (stay_nrm h.1 h.2.1 hn) hne h.2.2.2.2
/-- the last line that goes, among the first k. -/
def GoneSo (M : List (Int × Int)) (k : Nat) (g : Int) : Prop := (g = -1 ∧ ∀ i, i < k → ¬ GoneAt M i) ∨ ∃ j : Nat, g = (j : Int) ∧ j < k ∧ GoneAt M j
theorem goneSo_yes {M : List (Int × Int)} {k : Nat} (h : GoneAt M k) : GoneSo M (k + 1) (k : Int) := .inr ⟨k, rfl, by omega, h⟩
theorem goneSo_no {M : List (Int × Int)} {k : Nat} {g : Int} (h : GoneSo M k g) (hn : ¬ GoneAt M k) : GoneSo M (k + 1) g := by
  rcases h with ⟨h1, h2⟩ | ⟨j, h1, h2, h3⟩
  · refine .inl ⟨h1, fun i hi => ?_⟩
    rcases Nat.lt_or_ge i k with h | h
    · exact h2 i h
    · obtain rfl : i = k := by omega
      exact hn
  · exact .inr ⟨j, h1, by omega, h3⟩
theorem erase_row {M : List (Int × Int)} {g : Nat} (hg : g < M.length) : rowOf sendV (M.eraseIdx g) = [] ++ rowOf sendV (M.take g) ++ rowOf sendV (M.drop (g + 1)) ∧ (M.eraseIdx g).length = 0 + g + (M.length - (g + 1)) := by
  refine ⟨?_, by rw [List.length_eraseIdx]; simp [hg]; omega⟩
  rw [List.eraseIdx_eq_take_drop_succ]
  simp [rowOf]
end Go.Proofs.Ytpgaklfgbioocaa

namespace Go.Proofs.Ytpgaklfgbioocaa
open Go
abbrev LexRow : Type := Option Nat × List Nat × List Nat
def lexRow (ops : Array Oper) (o : Oper) : LexRow := (o.dst, o.looksAt ops, (o.after.toList.filter fun e => Region.binds .any e).map (·.on))
def apartT (x y : LexRow) : Bool :=
  (match x.1 with
   | some d => !(y.2.1.contains d) && y.1 != some d
   | none => true) &&
  (match y.1 with
   | some d => !(x.2.1.contains d)
   | none => true)
def lexTab : Nat → List LexRow → Bool
  | _, [] => true
  | k, s :: rest => (s.2.2.all fun j => Nat.blt j k) && (rest.all fun t => t.2.2.contains k || apartT s t) && lexTab (k + 1) rest
theorem apartT_eq (ops : Array Oper) (x y : Oper) : apartT (lexRow ops x) (lexRow ops y) = x.apart ops y := by
  unfold apartT Oper.apart lexRow
  rfl
theorem waits_any (ops : Array Oper) (o : Oper) (k : Nat) : (lexRow ops o).2.2.contains k = true → o.after.any (fun e => Region.binds .any e && e.on == k) = true := by
  intro h
  simp only [lexRow, List.contains_iff_mem, List.mem_map, List.mem_filter] at h
  obtain ⟨e, ⟨he, hb⟩, rfl⟩ := h
  rw [← Array.any_toList, List.any_eq_true]
  exact ⟨e, he, by simp [hb]⟩
theorem lexFrom_tab (ops : Array Oper) : ∀ (l : List Oper) (k : Nat) (listed : Array Bool), k + l.length = ops.size → (∀ j, l[j]? = ops[k + j]?) → listed.size = ops.size →
    (∀ j, j < ops.size → listed.getD j true = decide (j < k)) → lexTab k (l.map (lexRow ops)) = true → Region.lexFrom .any ops l.length k listed = true
  | [], k, listed, hk, _, hs, hd, _ => by
    unfold Region.lexFrom
    simp only [List.length_nil, Region.ready, List.isEmpty_iff, List.filter_eq_nil_iff]
    intro i hi
    have := hd i (by simpa using hi)
    rw [this]
    have hlt : i < k := by have := List.mem_range.1 hi; simp at hk; omega
    simp [hlt]
  | o :: l, k, listed, hk, hl, hs, hd, ht => by
    simp only [List.map_cons, lexTab, Bool.and_eq_true, List.all_eq_true] at ht
    obtain ⟨⟨h1, h2⟩, h3⟩ := ht
    have h0 : ops[k]? = some o := by simpa using (hl 0).symm
    have hkl : k < ops.size := by simp at hk; omega
    simp only [List.length_cons, Region.lexFrom, Bool.and_eq_true]
    refine ⟨⟨?_, ?_⟩, lexFrom_tab ops l (k + 1) _ (by simp at hk; omega) (fun j => by have := hl (j + 1); simpa [Nat.add_assoc, Nat.add_comm 1 j] using this) (by simpa using hs) (fun j hj => ?_) h3⟩
    · rw [List.contains_iff_mem, mem_ready]
      refine ⟨by rw [hd k hkl]; simp, o, h0, fun e he hb => ?_⟩
      have hw : e.on ∈ (lexRow ops o).2.2 := List.mem_map.2 ⟨e, List.mem_filter.2 ⟨by simpa using he, hb⟩, rfl⟩
      have hlt : e.on < k := by have := h1 _ hw; simpa [Nat.blt_eq] using this
      have := hd e.on (by omega)
      have hsz : e.on < listed.size := by omega
      simp [hlt, Array.getD, hsz] at this ⊢
      exact this
    · unfold Region.free
      rw [h0]
      simp only [List.all_eq_true, List.mem_range]
      intro j hj
      by_cases e : j = k
      · simp [e]
      by_cases hjk : j < k
      · have := hd j hj
        rw [this]; simp [hjk]
      · have hoj : l[j - k - 1]? = ops[j]? := by
          have := hl (j - k)
          rw [show j - k = (j - k - 1) + 1 by omega, List.getElem?_cons_succ] at this
          rw [this]; congr 1; omega
        obtain ⟨oj, hj2⟩ : ∃ oj, ops[j]? = some oj := ⟨ops[j], by simp [hj]⟩
        rw [hj2] at hoj
        have hm : lexRow ops oj ∈ l.map (lexRow ops) := List.mem_map.2 ⟨oj, List.mem_of_getElem? hoj, rfl⟩
        have := h2 _ hm
        rw [hj2]
        simp only [Bool.or_eq_true] at this ⊢
        refine .inr ?_
        rcases this with h | h
        · exact .inl (waits_any ops oj k h)
        · exact .inr (by rw [← apartT_eq]; exact h)
    · by_cases e : j = k
      · subst e
        simp [Array.getD, hs, hj]
      · have := hd j hj
        rw [getD_set_ne true (Ne.symm e), this]
        simp; omega
theorem lexB_tab {ops : Array Oper} (T : List LexRow) (hs : Region.noSelect ops = true) (hT : ops.toList.map (lexRow ops) = T) (h : lexTab 0 T = true) : Region.lexB .any ops = true := by
  unfold Region.lexB
  rw [hs, Bool.true_and]
  subst hT
  have := lexFrom_tab ops ops.toList 0 (Array.replicate ops.size false) (by simp) (fun j => by simp) (by simp) (fun j hj => by simp [Array.getD, hj]) h
  simpa using this
end Go.Proofs.Ytpgaklfgbioocaa

namespace Go.Proofs.Ytpgaklfgbioocaa
set_option linter.unusedVariables false
open Go.RowKit Go.Proofs.Ytpgaklfgbioocaa.RowK

theorem wrap_both2 {x : Int} (h0 : -9223372036854775808 ≤ x) (h1 : x ≤ 9223372036854775807) : IntKind.i64.wrap x = x ∧ wrap64 x = x := by
  have e1 : IntKind.i64.wrap x = x := IntWalk.i64_in _ (by omega)
  refine ⟨e1, ?_⟩
  conv => rhs; rw [← e1]
  simp [IntKind.wrap_i64, wrap64]
/-- lines whose numbers are at most twice those of a curve's. -/
def Ok2 (L : List (Int × Int)) : Prop := ∀ i, i < L.length → 0 ≤ SM.av L i ∧ SM.av L i ≤ 2000000000 ∧ 0 ≤ SM.sv L i ∧ SM.sv L i ≤ 2000000000
theorem MayAll.ok2 {L : List (Int × Int)} (hm : MayAll L) : Ok2 L := fun i hi => by
  have := mayB_iff (hm i hi)
  simp only at this
  omega
theorem may_mem {L M : List (Int × Int)} (hm : Ok2 L) (h : ∀ y, y ∈ M → y ∈ L) {i : Nat} (hi : i < M.length) : 0 ≤ SM.av M i ∧ SM.av M i ≤ 2000000000 ∧ 0 ≤ SM.sv M i ∧ SM.sv M i ≤ 2000000000 := by
  have hx := h M[i] (List.getElem_mem hi)
  obtain ⟨k, hk, e⟩ := List.getElem_of_mem hx
  have := hm k hk
  rw [← (av_at hi).1, ← (av_at hi).2, ← e, (av_at hk).1, (av_at hk).2]
  exact this
theorem gone_iff {M : List (Int × Int)} {k j m : Nat} (hj : k = j + 1) (hm : m = k + 1) : GoneAt M k ↔ SM.sv M j ≤ SM.sv M k ∨ (m < M.length ∧ SM.sv M m < SM.sv M k ∧ (SM.av M m - SM.av M j) * (SM.sv M j - SM.sv M k) ≤ (SM.av M k - SM.av M j) * (SM.sv M j - SM.sv M m)) := by
  subst hj; subst hm
  unfold GoneAt
  simp only [Nat.add_sub_cancel]
  constructor
  · exact fun h => h.elim (fun h => .inl h.2) (fun h => .inr h.2)
  · exact fun h => h.elim (fun h => .inl ⟨by omega, h⟩) (fun h => .inr ⟨by omega, h⟩)
set_option maxRecDepth 100000 in
set_option maxHeartbeats 4000000 in
theorem least_ref (A : Option Addr) (L : List (Int × Int)) (c : Nat) (hL : L.length ≤ 600) (h0 : 0 < L.length) (hm : Ok2 L) (w : World) (hA : Lie sendV 2 w w.heap.size A L) :
    Calls Try.prog 25 #[.slice A L.length c] w fun e w' => ∃ v, e = .returned v ∧ OwnL sendV 2 w' w.heap.size 44 v (CM.low L) ∧ Below w.heap.size w w' := by
  have HA := hidd hA
  have HM := hidd hm
  have cp := hidd (fun A' M c' X Y (h : M.length ≤ 1000) (h1 : M.length ≤ c') (h2 : c' ≤ maxLen) (h3 : Ups M) W hW => put_any A' M c' X Y h h1 h2 h3 W hW)
  obtain ⟨i0, hi, hz0, hz1, hz2⟩ := info_parts lineInfo
  unfold PutEnd at cp
  clear hA hm
  go_enter Try.func25, Try.ntmps25
  go_wp2_with fail
  go_loopg [3, 4] (L.length + 1) (fun g s3 s4 wr => ∃ (i : Nat) (M : List (Int × Int)), i ≤ L.length ∧ i + g = L.length + 1 ∧ s4 = .int .i64 (i : Int) ∧ OwnL sendV 2 wr w.heap.size 44 s3 M ∧ SoFar L i M ∧ Below w.heap.size w wr)
  case atStart => exact ⟨0, [], by omega, by omega, by first | rfl | simp, OwnL.nil _ _ _, ⟨List.Pairwise.nil, fun y => by simp, rfl⟩, Below.refl _ _⟩
  case round =>
    obtain ⟨i, M, hi1, hg, rfl, hO, hS, hB⟩ := hrel
    have HG := hidd hg
    have HO := hidd hO
    have HS := hidd hS
    have HB := hidd hB
    clear hg hO hS hB
    by_cases hlt : i < L.length
    · obtain ⟨ad, rfl, hab, y0, y1⟩ := (HA.out.below HB.out).send i hlt
      rw [(av_at hlt).1] at y0
      rw [(av_at hlt).2] at y1
      obtain ⟨A3, c3, rfl, hc0, hc1, hl3⟩ := HO.out.lie sendV_len
      have cput := hidd (fun X Y => cp.out A3 M c3 X Y (by have := HS.out.2.2; omega) hc0 hc1 HS.out.1 _ hl3)
      have hin2 : (i : Int) < (L.length : Int) := by omega
      have hi0 : (0 : Int) ≤ (i : Int) := by omega
      have hj : IntKind.i64.wrap ((i : Int) + 1) = (i : Int) + 1 := IntWalk.i64_in _ (by omega)
      have hsp := fun N (h : PutM M (SM.av L i, SM.sv L i) N) => sofar_put hlt HS.out h
      have HSP := hidd hsp
      clear hsp hl3 cp
      generalize SM.av L i = p at *
      generalize SM.sv L i = q at *
      go_wp2_with fail
      refine (cput.out p q).mono ?_
      rintro e w1 ⟨v1, N, rfl, hO1, hP1, hb1⟩
      have HO1 := hidd (hO1.base HB.out.size : OwnL sendV 2 w1 w.heap.size 44 _ _)
      have HP1 := hidd (HSP.out N hP1)
      have HB1 := hidd (below_step HB.out hb1)
      clear hO1 hP1 hb1
      go_wp2_with fail
      have hg := HG.out
      go_roundg (gk - 1)
      case measure => omega
      case rel => exact ⟨i + 1, N, by omega, by omega, by go_num, HO1.out, HP1.out, HB1.out⟩
    · obtain rfl : i = L.length := by omega
      have HLF := hidd (left_start h0 HS.out)
      clear cp HS HG
      go_wp2_with fail
      go_loopg [3, 5, 6] (L.length + 1) (fun g s3 s5 s6 wr => ∃ (M : List (Int × Int)), M.length + 1 ≤ g + 0 ∧ OwnL sendV 2 wr w.heap.size 44 s3 M ∧ Left L M ∧ Below w.heap.size w wr)
      case atStart => exact ⟨M, by have := HLF.out.2.2.1; omega, HO.out, HLF.out, HB.out⟩
      case round =>
        obtain ⟨M2, hg, hO, hF, hB⟩ := hrel
        have HG := hidd hg
        have HO2 := hidd hO
        have HF := hidd hF
        have HB2 := hidd hB
        clear hg hO hF hB
        obtain ⟨A3, c3, rfl, hc0, hc1, hl3⟩ := HO2.out.lie sendV_len
        have HL3 := hidd hl3
        have hM60 : M2.length ≤ 600 := by have := HF.out.2.2.1; omega
        have hma : ∀ i, i < M2.length → 0 ≤ SM.av M2 i ∧ SM.av M2 i ≤ 2000000000 ∧ 0 ≤ SM.sv M2 i ∧ SM.sv M2 i ≤ 2000000000 := fun i hi => may_mem HM.out HF.out.2.2.2.1 hi
        have HMA := hidd hma
        clear hl3 hma
        obtain ⟨gko, rfl⟩ : ∃ g, g = gk := ⟨gk, rfl⟩
        go_wp2_with fail
        go_loopg [5, 6] (M2.length + 1) (fun g s5 s6 wr => ∃ (k : Nat) (gn : Int), k ≤ M2.length ∧ k + g = M2.length + 1 ∧ s6 = .int .i64 (k : Int) ∧ s5 = .int .i64 gn ∧ GoneSo M2 k gn ∧ Below w.heap.size w wr ∧ OwnL sendV 2 wr w.heap.size 44 (.slice A3 M2.length c3) M2)
        case atStart => exact ⟨0, -1, by omega, by omega, by first | rfl | simp, by first | rfl | simp, .inl ⟨rfl, fun i hi => absurd hi (by omega)⟩, by have := HB2.out; (repeat' (first | (with_reducible exact Below.refl _ _) | (with_reducible assumption) | (with_reducible apply Below.setCell) | (with_reducible apply Below.alloc) | (with_reducible apply Below.drew) | (with_reducible apply below_drewN) | (with_reducible refine Below.trans ?_ (Below.mono (by assumption) ?_)) | omega | (simp; done) | (simp; omega))), by have := HO2.out; first | exact this | exact this.below (by (repeat' (first | (with_reducible exact Below.refl _ _) | (with_reducible assumption) | (with_reducible apply Below.setCell) | (with_reducible apply Below.alloc) | (with_reducible apply Below.drew) | (with_reducible apply below_drewN) | (with_reducible refine Below.trans ?_ (Below.mono (by assumption) ?_)) | omega | (simp; done) | (simp; omega))))⟩
        case round =>
          obtain ⟨k, gn, hk1, hg, rfl, rfl, hGS, hB, hO⟩ := hrel
          have HG3 := hidd hg
          have HGS := hidd hGS
          have HB3 := hidd hB
          have HO3 := hidd hO
          obtain ⟨A4, c4, e4, _, _, hl4⟩ := HO3.out.lie sendV_len
          obtain ⟨rfl, rfl⟩ : A3 = A4 ∧ c3 = c4 := by injection e4 with h1 h2 h3; exact ⟨h1, h3⟩
          have HL4 := hidd hl4
          clear hg hGS hB hO hl4 e4 HL3
          have hk0 : (0 : Int) ≤ (k : Int) := by omega
          by_cases hlt : k < M2.length
          · have hlt2 : (k : Int) < (M2.length : Int) := by omega
            by_cases hkz : k = 0
            · obtain rfl : k = 0 := hkz
              have hlt0 : 0 < M2.length := hlt
              have hj : IntKind.i64.wrap ((0 : Int) + 1) = 1 := by decide
              have HST := hidd (goneSo_no HGS.out (show ¬ GoneAt M2 0 from fun h => by rcases h with h | h; exact absurd h.1 (by omega); exact absurd h.1 (by omega)))
              go_wp2_with fail
              try simp only [List.append_eq, List.cons_append, List.nil_append]
              refine wp_region_quiet_lit (by kernel_rfl) (lexB_tab _ (by kernel_rfl) rfl (by kernel_rfl)) ?_
              repeat (go_big_quiet_step (fail))
              refine wpQuiet_nil ?_
              intro _ hw'
              obtain ⟨nq, hw''⟩ := hw'
              subst hw''
              go_wp2_with fail
              have hg := HG3.out
              have hB := HB3.out
              go_roundg (gk - 1)
              case measure => omega
              case rel => exact ⟨1, gn, by omega, by omega, by first | rfl | go_num, by first | rfl | simp, HST.out, by (repeat' (first | (with_reducible exact Below.refl _ _) | (with_reducible assumption) | (with_reducible apply Below.setCell) | (with_reducible apply Below.alloc) | (with_reducible apply Below.drew) | (with_reducible apply below_drewN) | (with_reducible refine Below.trans ?_ (Below.mono (by assumption) ?_)) | omega | (simp; done) | (simp; omega))), by have := HO3.out; first | exact this | exact this.below (by (repeat' (first | (with_reducible exact Below.refl _ _) | (with_reducible assumption) | (with_reducible apply Below.setCell) | (with_reducible apply Below.alloc) | (with_reducible apply Below.drew) | (with_reducible apply below_drewN) | (with_reducible refine Below.trans ?_ (Below.mono (by assumption) ?_)) | omega | (simp; done) | (simp; omega))))⟩
            · obtain ⟨j, hjk⟩ : ∃ j : Nat, k = j + 1 := ⟨k - 1, by omega⟩
              obtain ⟨m, hmk⟩ : ∃ m : Nat, m = k + 1 := ⟨_, rfl⟩
              have hk1 : 0 < k := by omega
              have hk1i : (0 : Int) < (k : Int) := by omega
              have hj0 : (0 : Int) ≤ (j : Int) := by omega
              have hm0 : (0 : Int) ≤ (m : Int) := by omega
              have hjl : (j : Int) < (M2.length : Int) := by omega
              have ej : IntKind.i64.wrap ((k : Int) - 1) = (j : Int) := by rw [IntWalk.i64_in _ (by omega)]; omega
              have em : IntKind.i64.wrap ((k : Int) + 1) = (m : Int) := by rw [IntWalk.i64_in _ (by omega)]; omega
              obtain ⟨ad, rfl, hab, x0, x1⟩ := HL4.out.send k hlt
              obtain ⟨ad', e', hab', y0, y1⟩ := HL4.out.send j (by omega)
              obtain rfl : ad = ad' := by injection e'
              rw [(av_at hlt).1] at x0
              rw [(av_at hlt).2] at x1
              rw [(av_at (show j < M2.length by omega)).1] at y0
              rw [(av_at (show j < M2.length by omega)).2] at y1
              obtain ⟨b00, b01, b02, b03⟩ := HMA.out k hlt
              obtain ⟨a00, a01, a02, a03⟩ := HMA.out j (by omega)
              have hgd := gone_iff (M := M2) hjk hmk
              have HGD := hidd hgd
              have HGK := hidd (show GoneAt M2 k → GoneSo M2 m (k : Int) from fun h => hmk ▸ goneSo_yes h)
              have HGN := hidd (show ¬ GoneAt M2 k → GoneSo M2 m gn from fun h => hmk ▸ goneSo_no HGS.out h)
              have HMK := hidd hmk
              clear e' hgd HGS hmk hjk
              obtain ⟨ba, hba⟩ : ∃ x, SM.av M2 k = x := ⟨_, rfl⟩
              obtain ⟨br, hbr⟩ : ∃ x, SM.sv M2 k = x := ⟨_, rfl⟩
              obtain ⟨aa, haa⟩ : ∃ x, SM.av M2 j = x := ⟨_, rfl⟩
              obtain ⟨ar, har⟩ : ∃ x, SM.sv M2 j = x := ⟨_, rfl⟩
              rw [hba] at x0 b00 b01
              rw [hbr] at x1 b02 b03
              rw [haa] at y0 a00 a01
              rw [har] at y1 a02 a03
              rw [hba, hbr, haa, har] at HGD
              clear hba hbr haa har
              by_cases h1 : ar ≤ br
              · have HST := hidd (HGK.out (HGD.out.2 (.inl h1)))
                have hm2 : m ≤ M2.length := by have := HMK.out; omega
                have HM2 := hidd hm2
                clear hm2
                go_wp2_with fail
                try simp only [List.append_eq, List.cons_append, List.nil_append]
                refine wp_region_quiet_lit (by kernel_rfl) (lexB_tab _ (by kernel_rfl) rfl (by kernel_rfl)) ?_
                repeat (go_big_quiet_step (fail))
                refine wpQuiet_nil ?_
                intro _ hw'
                obtain ⟨nq, hw''⟩ := hw'
                subst hw''
                go_wp2_with fail
                have hg := HG3.out
                have hB := HB3.out
                go_roundg (gk - 1)
                case measure => omega
                case rel => exact ⟨m, (k : Int), HM2.out, by have := HMK.out; omega, by first | rfl | go_num, by first | rfl | simp, HST.out, by (repeat' (first | (with_reducible exact Below.refl _ _) | (with_reducible assumption) | (with_reducible apply Below.setCell) | (with_reducible apply Below.alloc) | (with_reducible apply Below.drew) | (with_reducible apply below_drewN) | (with_reducible refine Below.trans ?_ (Below.mono (by assumption) ?_)) | omega | (simp; done) | (simp; omega))), by have := HO3.out; first | exact this | exact this.below (by (repeat' (first | (with_reducible exact Below.refl _ _) | (with_reducible assumption) | (with_reducible apply Below.setCell) | (with_reducible apply Below.alloc) | (with_reducible apply Below.drew) | (with_reducible apply below_drewN) | (with_reducible refine Below.trans ?_ (Below.mono (by assumption) ?_)) | omega | (simp; done) | (simp; omega))))⟩
              · have h1d : decide (ar ≤ br) = false := decide_eq_false h1
                by_cases h2 : m < M2.length
                · obtain ⟨ad', e', hab', z0, z1⟩ := HL4.out.send m h2
                  obtain rfl : ad = ad' := by injection e'
                  rw [(av_at h2).1] at z0
                  rw [(av_at h2).2] at z1
                  obtain ⟨c00, c01, c02, c03⟩ := HMA.out m h2
                  have h2i : (m : Int) < (M2.length : Int) := by omega
                  clear e'
                  generalize SM.av M2 m = ca at *
                  generalize SM.sv M2 m = cr at *
                  by_cases h3 : cr < br
                  · obtain ⟨d1, hd1⟩ : ∃ x, ca - aa = x := ⟨_, rfl⟩
                    obtain ⟨d2, hd2⟩ : ∃ x, ar - br = x := ⟨_, rfl⟩
                    obtain ⟨d3, hd3⟩ : ∃ x, ba - aa = x := ⟨_, rfl⟩
                    obtain ⟨d4, hd4⟩ : ∃ x, ar - cr = x := ⟨_, rfl⟩
                    have g1 := wrap_both2 (x := ca - aa) (by omega) (by omega)
                    have g2 := wrap_both2 (x := ar - br) (by omega) (by omega)
                    have g3 := wrap_both2 (x := ba - aa) (by omega) (by omega)
                    have g4 := wrap_both2 (x := ar - cr) (by omega) (by omega)
                    have p1 := prod_bd (x := d1) (y := d2) (by omega) (by omega) (by omega) (by omega)
                    have p2 := prod_bd (x := d3) (y := d4) (by omega) (by omega) (by omega) (by omega)
                    have g5 := wrap_both2 (x := d1 * d2) (by omega) (by omega)
                    have g6 := wrap_both2 (x := d3 * d4) (by omega) (by omega)
                    rw [hd1, hd2, hd3, hd4] at HGD
                    obtain ⟨U, hU⟩ : ∃ x, d1 * d2 = x := ⟨_, rfl⟩
                    obtain ⟨V, hV⟩ : ∃ x, d3 * d4 = x := ⟨_, rfl⟩
                    rw [hU, hV] at HGD
                    have q1 := g1.1.trans hd1
                    have q2 := g2.1.trans hd2
                    have q3 := g3.1.trans hd3
                    have q4 := g4.1.trans hd4
                    have q5 := g5.1.trans hU
                    have q6 := g6.1.trans hV
                    have r1 := g1.2.trans hd1
                    have r2 := g2.2.trans hd2
                    have r3 := g3.2.trans hd3
                    have r4 := g4.2.trans hd4
                    have r5 := g5.2.trans hU
                    have r6 := g6.2.trans hV
                    clear g1 g2 g3 g4 g5 g6 hd1 hd2 hd3 hd4 hU hV p1 p2
                    have hm2 : m ≤ M2.length := by omega
                    have HM2 := hidd hm2
                    clear hm2
                    by_cases h4 : U ≤ V
                    · have HST := hidd (HGK.out (HGD.out.2 (.inr ⟨h2, h3, h4⟩)))
                      go_wp2_with fail
                      try simp only [List.append_eq, List.cons_append, List.nil_append]
                      refine wp_region_quiet_lit (by kernel_rfl) (lexB_tab _ (by kernel_rfl) rfl (by kernel_rfl)) ?_
                      repeat (go_big_quiet_step (fail))
                      refine wpQuiet_nil ?_
                      intro _ hw'
                      obtain ⟨nq, hw''⟩ := hw'
                      subst hw''
                      go_wp2_with fail
                      have hg := HG3.out
                      have hB := HB3.out
                      go_roundg (gk - 1)
                      case measure => omega
                      case rel => exact ⟨m, (k : Int), HM2.out, by have := HMK.out; omega, by first | rfl | go_num, by first | rfl | simp, HST.out, by (repeat' (first | (with_reducible exact Below.refl _ _) | (with_reducible assumption) | (with_reducible apply Below.setCell) | (with_reducible apply Below.alloc) | (with_reducible apply Below.drew) | (with_reducible apply below_drewN) | (with_reducible refine Below.trans ?_ (Below.mono (by assumption) ?_)) | omega | (simp; done) | (simp; omega))), by have := HO3.out; first | exact this | exact this.below (by (repeat' (first | (with_reducible exact Below.refl _ _) | (with_reducible assumption) | (with_reducible apply Below.setCell) | (with_reducible apply Below.alloc) | (with_reducible apply Below.drew) | (with_reducible apply below_drewN) | (with_reducible refine Below.trans ?_ (Below.mono (by assumption) ?_)) | omega | (simp; done) | (simp; omega))))⟩
                    · have h4d : decide (U ≤ V) = false := decide_eq_false h4
                      have HST := hidd (HGN.out (fun h => by rcases HGD.out.1 h with h | h; exact h1 h; exact h4 h.2.2))
                      go_wp2_with fail
                      try simp only [List.append_eq, List.cons_append, List.nil_append]
                      refine wp_region_quiet_lit (by kernel_rfl) (lexB_tab _ (by kernel_rfl) rfl (by kernel_rfl)) ?_
                      repeat (go_big_quiet_step (fail))
                      refine wpQuiet_nil ?_
                      intro _ hw'
                      obtain ⟨nq, hw''⟩ := hw'
                      subst hw''
                      go_wp2_with fail
                      have hg := HG3.out
                      have hB := HB3.out
                      go_roundg (gk - 1)
                      case measure => omega
                      case rel => exact ⟨m, gn, HM2.out, by have := HMK.out; omega, by first | rfl | go_num, by first | rfl | simp, HST.out, by (repeat' (first | (with_reducible exact Below.refl _ _) | (with_reducible assumption) | (with_reducible apply Below.setCell) | (with_reducible apply Below.alloc) | (with_reducible apply Below.drew) | (with_reducible apply below_drewN) | (with_reducible refine Below.trans ?_ (Below.mono (by assumption) ?_)) | omega | (simp; done) | (simp; omega))), by have := HO3.out; first | exact this | exact this.below (by (repeat' (first | (with_reducible exact Below.refl _ _) | (with_reducible assumption) | (with_reducible apply Below.setCell) | (with_reducible apply Below.alloc) | (with_reducible apply Below.drew) | (with_reducible apply below_drewN) | (with_reducible refine Below.trans ?_ (Below.mono (by assumption) ?_)) | omega | (simp; done) | (simp; omega))))⟩
                  · have h3d : decide (cr < br) = false := decide_eq_false h3
                    have HST := hidd (HGN.out (fun h => by rcases HGD.out.1 h with h | h; exact h1 h; exact h3 h.2.1))
                    have hm2 : m ≤ M2.length := by omega
                    have HM2 := hidd hm2
                    clear hm2
                    go_wp2_with fail
                    try simp only [List.append_eq, List.cons_append, List.nil_append]
                    refine wp_region_quiet_lit (by kernel_rfl) (lexB_tab _ (by kernel_rfl) rfl (by kernel_rfl)) ?_
                    repeat (go_big_quiet_step (fail))
                    refine wpQuiet_nil ?_
                    intro _ hw'
                    obtain ⟨nq, hw''⟩ := hw'
                    subst hw''
                    go_wp2_with fail
                    have hg := HG3.out
                    have hB := HB3.out
                    go_roundg (gk - 1)
                    case measure => omega
                    case rel => exact ⟨m, gn, HM2.out, by have := HMK.out; omega, by first | rfl | go_num, by first | rfl | simp, HST.out, by (repeat' (first | (with_reducible exact Below.refl _ _) | (with_reducible assumption) | (with_reducible apply Below.setCell) | (with_reducible apply Below.alloc) | (with_reducible apply Below.drew) | (with_reducible apply below_drewN) | (with_reducible refine Below.trans ?_ (Below.mono (by assumption) ?_)) | omega | (simp; done) | (simp; omega))), by have := HO3.out; first | exact this | exact this.below (by (repeat' (first | (with_reducible exact Below.refl _ _) | (with_reducible assumption) | (with_reducible apply Below.setCell) | (with_reducible apply Below.alloc) | (with_reducible apply Below.drew) | (with_reducible apply below_drewN) | (with_reducible refine Below.trans ?_ (Below.mono (by assumption) ?_)) | omega | (simp; done) | (simp; omega))))⟩
                · have HST := hidd (HGN.out (fun h => by rcases HGD.out.1 h with h | h; exact h1 h; exact h2 h.1))
                  have hm2 : m ≤ M2.length := by have := HMK.out; omega
                  have HM2 := hidd hm2
                  have h2i : ¬ (m : Int) < (M2.length : Int) := by omega
                  have h2d : decide (m < M2.length) = false := decide_eq_false h2
                  clear hm2
                  go_wp2_with fail
                  try simp only [List.append_eq, List.cons_append, List.nil_append]
                  refine wp_region_quiet_lit (by kernel_rfl) (lexB_tab _ (by kernel_rfl) rfl (by kernel_rfl)) ?_
                  repeat (go_big_quiet_step (fail))
                  refine wpQuiet_nil ?_
                  intro _ hw'
                  obtain ⟨nq, hw''⟩ := hw'
                  subst hw''
                  go_wp2_with fail
                  have hg := HG3.out
                  have hB := HB3.out
                  go_roundg (gk - 1)
                  case measure => omega
                  case rel => exact ⟨m, gn, HM2.out, by have := HMK.out; omega, by first | rfl | go_num, by first | rfl | simp, HST.out, by (repeat' (first | (with_reducible exact Below.refl _ _) | (with_reducible assumption) | (with_reducible apply Below.setCell) | (with_reducible apply Below.alloc) | (with_reducible apply Below.drew) | (with_reducible apply below_drewN) | (with_reducible refine Below.trans ?_ (Below.mono (by assumption) ?_)) | omega | (simp; done) | (simp; omega))), by have := HO3.out; first | exact this | exact this.below (by (repeat' (first | (with_reducible exact Below.refl _ _) | (with_reducible assumption) | (with_reducible apply Below.setCell) | (with_reducible apply Below.alloc) | (with_reducible apply Below.drew) | (with_reducible apply below_drewN) | (with_reducible refine Below.trans ?_ (Below.mono (by assumption) ?_)) | omega | (simp; done) | (simp; omega))))⟩
          · obtain rfl : k = M2.length := by omega
            rcases HGS.out with ⟨rfl, hall⟩ | ⟨j, rfl, hjl, hgo⟩
            · have HE := hidd (left_end HF.out hall)
              clear hall HGS
              go_wp2_with fail
              go_ret
              exact ⟨_, rfl, HE.out ▸ HO3.out, HB3.out⟩
            · have HLG := hidd (left_gone hjl HF.out hgo)
              have HER := hidd (erase_row hjl)
              obtain ⟨ad, rfl, hab, _, _⟩ := HL4.out.send j hjl
              obtain ⟨m, hm⟩ : ∃ m : Nat, m = j + 1 := ⟨_, rfl⟩
              have em : IntKind.i64.wrap ((j : Int) + 1) = (m : Int) := by rw [IntWalk.i64_in _ (by omega)]; omega
              have hj0 : (0 : Int) ≤ (j : Int) := by omega
              have hjl2 : (j : Int) ≤ (M2.length : Int) := by omega
              have hjl3 : (j : Int) ≤ (c3 : Int) := by omega
              have hm0 : (0 : Int) ≤ (m : Int) := by omega
              have hml : (m : Int) ≤ (M2.length : Int) := by omega
              have hmc : (m : Int) ≤ (c3 : Int) := by omega
              have hlc : (M2.length : Int) ≤ (c3 : Int) := by omega
              have hjneg : ¬ (j : Int) < 0 := by omega
              have hmle : m ≤ M2.length := by omega
              have HMJ := hidd hm
              have hWs := HB3.out.size
              have SRC1 := hidd (fun W' (hb : Below wr.heap.size wr W') => (fun (_ : 0 < j) => (⟨ad, rfl, lie_take (HL4.out.below hb) j⟩ : ∃ a, some ad = some a ∧ ∀ j' u, (rowOf sendV (M2.take j))[j']? = some u → W'.cell? (a.add j') = some u)))
              have SRC2 := hidd (fun W' (hb : Below wr.heap.size wr W') => (fun (_ : 0 < M2.length - m) => (⟨ad.add (m * 2), rfl, lie_drop (HL4.out.below hb) m⟩ : ∃ a, some (ad.add (m * 2)) = some a ∧ ∀ j' u, (rowOf sendV (M2.drop m))[j']? = some u → W'.cell? (a.add j') = some u)))
              have ejk : (M2.take j).length = j := by simp; omega
              have HFIN := hidd (fun wb v2 (hb2 : Below wr.heap.size wr wb) (hown2 : wb.ownsRow wr.heap.size 44 2 v2 (0 + j + (M2.length - m)) ([] ++ rowOf sendV (M2.take j) ++ rowOf sendV (M2.drop m))) => (show OwnL sendV 2 wb w.heap.size 44 v2 (M2.eraseIdx j) from OwnL.base (by
                unfold OwnL
                rw [HER.out.1, HER.out.2, ← HMJ.out]
                exact hown2) hWs))
              have HEJ := hidd ejk
              clear hgo HGS hm ejk
              by_cases hmm : m < M2.length
              · have hcm : ¬ c3 = m := by omega
                go_wp2_with fail
                go_region_held3 (fun _ => True) (trivial)
                  ((first
                    | (refine step_append_some (by rfl) (.const (.slice none 0 0)) (.tmp 127) _ (by rfl) wr.heap.size 44 i0 _ 2 16 Try.underlying25 hi hz0 hz1 hz2 rfl (by omega) (.slice none 0 0) 0 [] (by rfl) (World.ownsRow_nil _ _ _ _) (some ad) j c3 (rowOf sendV (M2.take j)) (by rfl) (by rw [row_len sendV_len, HEJ.out]) (SRC1.out _ (by (repeat' (first | (with_reducible exact Below.refl _ _) | (with_reducible assumption) | (with_reducible apply Below.setCell) | (with_reducible apply Below.alloc) | (with_reducible apply Below.drew) | (with_reducible apply below_drewN) | (with_reducible refine Below.trans ?_ (Below.mono (by assumption) ?_)) | omega | (simp; done) | (simp; omega))))) (rowOf_one sendV_one _) (by simp only [maxLen]; omega) (by omega) (by (first | omega | (simp; done) | (simp; omega))) ?_; intro v1 wa hown1 hgrow1 hat1; have hb1 : Below wr.heap.size wr wa := Below.grown (by (repeat' (first | (with_reducible exact Below.refl _ _) | (with_reducible assumption) | (with_reducible apply Below.setCell) | (with_reducible apply Below.alloc) | (with_reducible apply Below.drew) | (with_reducible apply below_drewN) | (with_reducible refine Below.trans ?_ (Below.mono (by assumption) ?_)) | omega | (simp; done) | (simp; omega)))) hgrow1 (by (first | omega | (simp; done) | (simp; omega))) (by intro k hk; simp [Value.ownBlock] at hk); have hz1' := Below.size hb1)
                    | (refine step_append_some (by rfl) (.tmp 128) (.tmp 132) _ (by rfl) wr.heap.size 44 i0 _ 2 16 Try.underlying25 hi hz0 hz1 hz2 rfl (by omega) v1 (0 + j) ([] ++ rowOf sendV (M2.take j)) (by rfl) hown1 (some (ad.add (m * 2))) (M2.length - m) (c3 - m) (rowOf sendV (M2.drop m)) (by rfl) (by rw [row_len sendV_len, List.length_drop]) (SRC2.out _ hb1) (rowOf_one sendV_one _) (by simp only [maxLen]; omega) (by omega) (by (first | omega | (simp; done) | (simp; omega))) ?_; intro v2 wb hown2 hgrow2 hat2; have hb2 : Below wr.heap.size wr wb := Below.grown hb1 hgrow2 (by (first | omega | (simp; done) | (simp; omega))) (fun k hk => (World.ownsRow.lt hown1 k hk).1); have hz2' := Below.size hb2)))
                all_goals go_wp2_with fail
                all_goals (
                  have hO := HFIN.out _ _ hb2 hown2
                  have hg := HG.out
                  have hel := HER.out.2
                  go_roundg (gko - 1)
                  case measure => omega
                  case rel => exact ⟨M2.eraseIdx j, by omega, hO, HLG.out, below_step HB3.out hb2⟩)
              · obtain rfl : m = M2.length := by omega
                have hd0 : M2.drop M2.length = [] := by simp
                have HD0 := hidd hd0
                clear hd0
                go_wp2_with fail
                go_region_held3 (fun _ => True) (trivial)
                  ((first
                    | (refine step_append_some (by rfl) (.const (.slice none 0 0)) (.tmp 127) _ (by rfl) wr.heap.size 44 i0 _ 2 16 Try.underlying25 hi hz0 hz1 hz2 rfl (by omega) (.slice none 0 0) 0 [] (by rfl) (World.ownsRow_nil _ _ _ _) (some ad) j c3 (rowOf sendV (M2.take j)) (by rfl) (by rw [row_len sendV_len, HEJ.out]) (SRC1.out _ (by (repeat' (first | (with_reducible exact Below.refl _ _) | (with_reducible assumption) | (with_reducible apply Below.setCell) | (with_reducible apply Below.alloc) | (with_reducible apply Below.drew) | (with_reducible apply below_drewN) | (with_reducible refine Below.trans ?_ (Below.mono (by assumption) ?_)) | omega | (simp; done) | (simp; omega))))) (rowOf_one sendV_one _) (by simp only [maxLen]; omega) (by omega) (by (first | omega | (simp; done) | (simp; omega))) ?_; intro v1 wa hown1 hgrow1 hat1; have hb1 : Below wr.heap.size wr wa := Below.grown (by (repeat' (first | (with_reducible exact Below.refl _ _) | (with_reducible assumption) | (with_reducible apply Below.setCell) | (with_reducible apply Below.alloc) | (with_reducible apply Below.drew) | (with_reducible apply below_drewN) | (with_reducible refine Below.trans ?_ (Below.mono (by assumption) ?_)) | omega | (simp; done) | (simp; omega)))) hgrow1 (by (first | omega | (simp; done) | (simp; omega))) (by intro k hk; simp [Value.ownBlock] at hk); have hz1' := Below.size hb1)
                    | (refine step_append_some (by rfl) (.tmp 128) (.tmp 132) _ (by rfl) wr.heap.size 44 i0 _ 2 16 Try.underlying25 hi hz0 hz1 hz2 rfl (by omega) v1 (0 + j) ([] ++ rowOf sendV (M2.take j)) (by rfl) hown1 (if c3 = M2.length then (some ad) else Option.map (fun x => x.add (M2.length * 2)) (some ad)) 0 (c3 - M2.length) [] (by rfl) rfl (fun h => absurd h (by omega)) (by simp) (by simp only [maxLen]; omega) (by omega) (by (first | omega | (simp; done) | (simp; omega))) ?_; intro v2 wb hown2 hgrow2 hat2; have hb2 : Below wr.heap.size wr wb := Below.grown hb1 hgrow2 (by (first | omega | (simp; done) | (simp; omega))) (fun k hk => (World.ownsRow.lt hown1 k hk).1); have hz2' := Below.size hb2)))
                all_goals go_wp2_with fail
                all_goals (
                  have hO := HFIN.out _ _ hb2 (by rw [HD0.out]; simpa [rowOf] using hown2)
                  have hg := HG.out
                  have hel := HER.out.2
                  go_roundg (gko - 1)
                  case measure => omega
                  case rel => exact ⟨M2.eraseIdx j, by omega, hO, HLG.out, below_step HB3.out hb2⟩)
end Go.Proofs.Ytpgaklfgbioocaa

namespace Go.Proofs.Ytpgaklfgbioocaa
set_option linter.unusedVariables false
open Go.RowKit Go.Proofs.Ytpgaklfgbioocaa.RowK

set_option maxRecDepth 100000 in
set_option maxHeartbeats 4000000 in
theorem made_gen (ok : Bool) (A : Option Addr) (L : List (Int × Int)) (c : Nat) (hL : L.length ≤ 600) (h0 : 0 < L.length) (hm : Ok2 L) (hok : ok = true ↔ MayAll (CM.low L) ∧ (CM.low L).length ≤ 32) (w : World) (hA : Lie sendV 2 w w.heap.size A L) :
    Calls Try.prog 10 #[.slice A L.length c] w (MakeEnd L (if ok then CM.low L else []) (if ok then 0 else 3) w) := by
  have cl := hidd (least_ref A L c hL h0 hm w hA)
  have HOK := hidd hok
  have hlen : (CM.low L).length ≤ 1000000 := Nat.le_trans (CM.low_len L) (by omega)
  clear hok hm hA hL
  unfold MakeEnd
  generalize CM.low L = R at *
  go_enter Try.func10, Try.ntmps10
  go_wp2_with fail
  refine cl.out.mono ?_
  rintro e w1 ⟨v1, rfl, hO, hb1⟩
  obtain ⟨A1, c1, rfl, _, _, hl1⟩ := hO.lie sendV_len
  have HL1 := hidd hl1
  have HB1 := hidd hb1
  have HO1 := hidd hO
  clear hl1 hb1 hO cl
  go_wp2_with fail
  go_loopg [5] (R.length + 1) (fun g s5 wr => ∃ i : Nat, i ≤ R.length ∧ i + g = R.length + 1 ∧ s5 = .int .i64 (i : Int) ∧ (∀ k, k < i → mayB (SM.av R k, SM.sv R k) = true) ∧ Below w1.heap.size w1 wr)
  case atStart => exact ⟨0, by omega, by omega, by first | rfl | simp, fun k hk => absurd hk (by omega), Below.refl _ _⟩
  case round =>
    obtain ⟨i, hi1, hg, rfl, hal, hB⟩ := hrel
    have HG := hidd hg
    have HAL := hidd hal
    have HB := hidd hB
    clear hg hB hal
    by_cases hlt : i < R.length
    · obtain ⟨ad, rfl, hab, y0, y1⟩ := (HL1.out.below HB.out).send i hlt
      have cm := fun W => refMay_any (SM.av R i) (SM.sv R i) W
      rw [(av_at hlt).1] at y0
      rw [(av_at hlt).2] at y1
      have hin2 : (i : Int) < (R.length : Int) := by omega
      have hi0 : (0 : Int) ≤ (i : Int) := by omega
      obtain ⟨bb, hbb⟩ : ∃ bb, mayB (SM.av R i, SM.sv R i) = bb := ⟨_, rfl⟩
      rw [hbb] at cm
      have CMM := hidd cm
      have HBBB := hidd hbb
      have HNX := hidd (show bb = true → ∀ k, k < i + 1 → mayB (SM.av R k, SM.sv R k) = true from fun h k hk => by
        by_cases e : k = i
        · subst e; rw [hbb]; exact h
        · exact HAL.out k (by omega))
      have HNO := hidd (show bb = false → ¬ ok = true from fun h h2 => by
        have := (HOK.out.1 h2).1 i hlt
        rw [hbb, h] at this
        cases this)
      clear cm hbb
      generalize SM.av R i = p at *
      generalize SM.sv R i = q at *
      cases bb
      · obtain rfl : ok = false := by
          cases ok
          · rfl
          · exact absurd rfl (HNO.out rfl)
        go_wp2_with fail
        refine (CMM.out _).mono ?_
        rintro e w2 ⟨rfl, hb2⟩
        have HB2 := hidd (below_step HB.out hb2)
        clear hb2
        go_wp2_with fail
        go_ret2
        exact ⟨_, rfl, OwnL.nil _ _ _, below_step HB1.out HB2.out⟩
      · go_wp2_with fail
        refine (CMM.out _).mono ?_
        rintro e w2 ⟨rfl, hb2⟩
        have HB2 := hidd (below_step HB.out hb2)
        clear hb2
        go_wp2_with fail
        have hg := HG.out
        go_roundg (gk - 1)
        case measure => omega
        case rel => exact ⟨i + 1, by omega, by omega, by go_num, HNX.out (by first | trivial | rfl), HB2.out⟩
    · obtain rfl : i = R.length := by omega
      have hml : MayAll R := fun k hk => HAL.out k hk
      have HML := hidd hml
      clear hml
      cases ok
      · have hn : ¬ R.length ≤ 32 := fun h => absurd (HOK.out.2 ⟨HML.out, h⟩) Bool.false_ne_true
        have hn2 : (32 : Int) < (R.length : Int) := by omega
        have hn3 : 32 < R.length := by omega
        clear hn
        go_wp2_with fail
        go_ret2
        exact ⟨_, rfl, OwnL.nil _ _ _, below_step HB1.out HB.out⟩
      · have hn : R.length ≤ 32 := (HOK.out.1 rfl).2
        have hn2 : ¬ (32 : Int) < (R.length : Int) := by omega
        have hn3 : ¬ 32 < R.length := by omega
        clear hn
        go_wp2_with fail
        go_ret2
        exact ⟨_, rfl, HO1.out.below HB.out, below_step HB1.out HB.out⟩
theorem made_any (ok : Bool) (A : Option Addr) (L : List (Int × Int)) (c : Nat) (hL : L.length ≤ 60) (h0 : 0 < L.length) (hm : MayAll L) (hok : ok = true ↔ (CM.low L).length ≤ 32) (w : World) (hA : Lie sendV 2 w w.heap.size A L) :
    Calls Try.prog 10 #[.slice A L.length c] w (MakeEnd L (if ok then CM.low L else []) (if ok then 0 else 3) w) :=
  made_gen ok A L c (by omega) h0 hm.ok2 ⟨fun h => ⟨may_low hm, hok.1 h⟩, fun h => hok.2 h.2⟩ w hA
end Go.Proofs.Ytpgaklfgbioocaa

namespace Go.Proofs.Ytpgaklfgbioocaa
set_option linter.unusedVariables false
open Go.RowKit Go.Proofs.Ytpgaklfgbioocaa.RowK

def FineC (cs : List Crv) : Prop := 0 < cs.length ∧ AllR cs
theorem areNone_gen (A : Option Addr) (k : Nat) (cs : List Crv) (hlen : cs.length ≤ 1000000) (hlen2 : ∀ c ∈ cs, c.2.length ≤ 1000000) (w : World) (hC : Curves w w.heap.size A cs) :
    Calls Try.prog 21 #[.slice A cs.length k] w (MayEnd (¬ FineC cs) w) := by
  by_cases h0 : 0 < cs.length
  · have e : (¬ FineC cs) ↔ ¬ AllR cs := ⟨fun h g => h ⟨h0, g⟩, fun h g => h g.2⟩
    unfold MayEnd
    refine (areNone_any A k cs h0 hlen hlen2 w hC).mono ?_
    rintro x w' ⟨R, rfl, hR, hb⟩
    exact ⟨R, rfl, hR.trans e.symm, hb⟩
  · have e : ¬ FineC cs := fun g => h0 g.1
    have HE := hidd e
    have h2 : ((cs.length : Int) == 0) = true := beq_iff_eq.2 (by omega)
    have h3 : cs.length = 0 := by omega
    clear hC hlen2 e h0
    unfold MayEnd
    go_enter Try.func21, Try.ntmps21
    go_wp2_with fail
    go_ret
    exact ⟨true, by first | rfl | simp, ⟨fun _ => HE.out, fun _ => rfl⟩, Below.refl _ _⟩
theorem min_bad2 (A : Option Addr) (k : Nat) (cs : List Crv) (hlen : cs.length ≤ 1000000) (hlen2 : ∀ c ∈ cs, c.2.length ≤ 1000000) (w : World) (hC : Curves w w.heap.size A cs) (hn : ¬ FineC cs) :
    Calls Try.prog 7 #[.slice A cs.length k] w (MakeEnd [] [] 2 w) := by
  have ci := hidd (areNone_gen A k cs hlen hlen2 w hC)
  have HN := hidd hn
  clear hC hlen2 hn
  unfold MayEnd at ci
  unfold MakeEnd
  go_enter Try.func7, Try.ntmps7
  go_wp2_with fail
  refine ci.out.mono ?_
  rintro e w1 ⟨R, rfl, hR, hb⟩
  obtain rfl : R = true := hR.2 HN.out
  clear hR
  go_wp2_with fail
  go_ret2
  exact ⟨_, rfl, OwnL.nil _ _ _, hb⟩
theorem sum_bad2 (A : Option Addr) (k : Nat) (cs : List Crv) (hlen : cs.length ≤ 1000000) (hlen2 : ∀ c ∈ cs, c.2.length ≤ 1000000) (w : World) (hC : Curves w w.heap.size A cs) (hn : ¬ FineC cs) :
    Calls Try.prog 8 #[.slice A cs.length k] w (MakeEnd [] [] 2 w) := by
  have ci := hidd (areNone_gen A k cs hlen hlen2 w hC)
  have HN := hidd hn
  clear hC hlen2 hn
  unfold MayEnd at ci
  unfold MakeEnd
  go_enter Try.func8, Try.ntmps8
  go_wp2_with fail
  refine ci.out.mono ?_
  rintro e w1 ⟨R, rfl, hR, hb⟩
  obtain rfl : R = true := hR.2 HN.out
  clear hR
  go_wp2_with fail
  go_ret2
  exact ⟨_, rfl, OwnL.nil _ _ _, hb⟩
theorem bound_iff {L M : List (Int × Int)} (hL : RgtC L) (hM : RgtC M) : boundP (CM.tog L M) ↔ MayAll (CM.low (CM.pairs L M)) ∧ (CM.low (CM.pairs L M)).length ≤ 32 := by
  rw [← tog_low hL.2.2 hM.2.2]
  exact ⟨fun h => ⟨(tog_rgt hL hM h).2.1, (tog_rgt hL hM h).1.2⟩, fun h => may_bound h.1 (CM.tog_pos L M) h.2⟩
theorem sumL_first {c : List (Int × Int)} (hc : RgtC c) (cs : List (List (Int × Int))) : sumL [(0, 0)] (c :: cs) = sumL c cs := by
  rw [sumL_cons, CM.tog_zero hc.2.2, if_pos (may_bound hc.2.1 hc.1.1 hc.1.2)]
theorem pairs_ok2 {L M : List (Int × Int)} (hL : MayAll L) (hM : MayAll M) : Ok2 (CM.pairs L M) := fun i hi => by
  obtain ⟨x, hx, y, hy, e⟩ := CM.pairs_mem.1 (List.getElem_mem hi)
  obtain ⟨a, ha, rfl⟩ := List.mem_iff_getElem.1 hx
  obtain ⟨b, hb, rfl⟩ := List.mem_iff_getElem.1 hy
  have u := mayB_iff (hL a ha)
  have v := mayB_iff (hM b hb)
  rw [← (av_at ha).1, ← (av_at ha).2] at u
  rw [← (av_at hb).1, ← (av_at hb).2] at v
  rw [← (av_at hi).1, ← (av_at hi).2, e]
  simp only at u v ⊢
  omega
/-- one more curve of a sum: what it is at a time. -/
theorem sum_at {T c S : List (Int × Int)} {cs : List (List (Int × Int))} (hT : RgtC T) (hc : RgtC c) (hs : sumL T (c :: cs) = some S) {n d x y : Int} (hn : 0 ≤ n) (hd : 0 ≤ d) (h1 : CM.IsMin T n d x) (h2 : CM.IsMin c n d y) :
    sumL (CM.tog T c) cs = some S ∧ RgtC (CM.tog T c) ∧ CM.IsMin (CM.tog T c) n d (x + y) := by
  rw [sumL_cons] at hs
  by_cases hb : boundP (CM.tog T c)
  · rw [if_pos hb] at hs
    exact ⟨hs, tog_rgt hT hc hb, CM.tog_min hT.2.2 hc.2.2 hn hd h1 h2⟩
  · rw [if_neg hb] at hs
    cases hs
theorem min_zero (n d : Int) : CM.IsMin [(0, 0)] n d 0 := ⟨⟨(0, 0), by simp, by simp [CM.val]⟩, fun x hx => by
  obtain rfl : x = (0, 0) := by simpa using hx
  simp [CM.val]⟩
theorem min_range2 {L : List (Int × Int)} (hm : MayAll L) {n d x : Int} (h0 : 0 ≤ n) (h1 : n ≤ 1000000) (d0 : 1 ≤ d) (d1 : d ≤ 100) (h : CM.IsMin L n d x) : 0 ≤ x ∧ x ≤ 2000000000000000 := by
  obtain ⟨⟨y, hy, e⟩, _⟩ := h
  obtain ⟨a, ha, rfl⟩ := List.mem_iff_getElem.1 hy
  have u := mayB_iff (hm a ha)
  rw [← (av_at ha).1, ← (av_at ha).2] at u
  unfold CM.val at e
  simp only at u
  have p := term_bd (x := (L[a]).1) (y := d) (K := 100) (by omega) (by omega) (by omega) (by omega)
  have q := term_bd (x := (L[a]).2) (y := n) (K := 1000000) (by omega) (by omega) (by omega) (by omega)
  omega
end Go.Proofs.Ytpgaklfgbioocaa

namespace Go.Proofs.Ytpgaklfgbioocaa
set_option linter.unusedVariables false
namespace RowK
open Go.ChangeShapes Go.WideShapes Go.ChangeAt Go.RowKit Go.Joins Go.Deep

section
variable {H : Type} {enc : TypeId × Value → H} {w : World} {base : Nat} {spare : Nat → Bool} {held : Bool} {fuel : Nat}
theorem cellsCurve : Try.prog.cellsOf 25 = 1 := by kernel_rfl
theorem open_curves {cs : List Value} {x : DataW H × List MemPlace} (h : DataW.trod enc Try.prog w base spare held fuel 22 cs = some x) :
    ∃ (A : Option Addr) (L : List Crv) (c : Nat), cs = [.slice A L.length c] ∧ L.length ≤ c ∧ c ≤ maxLen ∧ Caps L ∧ Curves w w.heap.size A L := by
  rcases open_slice Try.underlying22 h with h0 | ⟨a, len, cap, m, n, D, Pl, hcs, hb, hl, hm, hmm, hx, hi⟩
  · exact ⟨none, [], 0, h0.1, by simp, by simp [maxLen], fun c hc => by simp at hc, fun h => by simp at h, by simp⟩
  · have him : len ≤ m := by rw [hmm]; split <;> omega
    obtain ⟨L, hL, hQ⟩ := list_of (α := Crv) (Q := fun i p => w.cell? (a.add i) = some p.1 ∧ ∃ A c, p.1 = .slice A p.2.length c ∧ p.2.length ≤ c ∧ c ≤ maxLen ∧ Lie sendV 2 w w.heap.size A p.2) (n := len) (fun i hil => by
      obtain ⟨cs', hc, ht'⟩ := hi i (by omega)
      rw [cellsCurve] at hc
      obtain ⟨A, B, c, rfl, hlc, hcm, hli⟩ := open_curve ht'
      obtain ⟨_, _, hat⟩ := World.cells?_some hc
      have := hat (i := 0) (by omega)
      refine ⟨(.slice A B.length c, B), by simpa [Go.Deep.add_add] using this, A, c, rfl, hlc, hcm, hli⟩)
    subst hL
    refine ⟨some a, L, cap, hcs, hl, hm, fun p hp => ?_, fun h0 => ⟨a, rfl, ?_, fun i x hx j v hv => ?_⟩, fun p hp => ?_⟩
    · obtain ⟨i, hi⟩ := List.getElem?_of_mem hp
      obtain ⟨_, A, c, h1, h2, h3, _⟩ := hQ i p hi
      exact ⟨A, c, h1, h2, h3⟩
    · have := (hQ 0 L[0] (List.getElem?_eq_getElem h0)).1
      have := World.block_lt_of_cell? _ _ this
      rwa [block_of_add] at this
    · match j, hv with
      | 0, hv =>
        simp [curV] at hv; subst hv
        simpa using (hQ i x hx).1
      | j + 1, hv => simp [curV] at hv
    · obtain ⟨i, hi⟩ := List.getElem?_of_mem hp
      obtain ⟨_, A, c, h1, h2, h3, hl⟩ := hQ i p hi
      exact ⟨A, c, h1, hl⟩
end
end RowK
end Go.Proofs.Ytpgaklfgbioocaa

namespace Go.Proofs.Ytpgaklfgbioocaa
set_option linter.unusedVariables false
open Go.RowKit Go.Proofs.Ytpgaklfgbioocaa.RowK

theorem crv_at {W : World} {B : Nat} {A : Option Addr} {cs : List Crv} (h : Curves W B A cs) (hc : Caps cs) (i : Nat) (hi : i < cs.length) :
    ∃ ad A1 k1, A = some ad ∧ ad.block < B ∧ W.cell? (ad.add i) = some (.slice A1 (cs[i]).2.length k1) ∧ (cs[i]).2.length ≤ k1 ∧ k1 ≤ maxLen ∧ Lie sendV 2 W B A1 (cs[i]).2 := by
  obtain ⟨ad, rfl, ha, x0⟩ := h.at_ i hi
  obtain ⟨A1, k1, e1, hk1, hk2⟩ := hc (cs[i]) (List.getElem_mem hi)
  obtain ⟨A2, k2, e2, hl⟩ := h.2 (cs[i]) (List.getElem_mem hi)
  rw [e1] at e2
  injection e2 with e3 e4 e5
  subst e3
  subst e5
  rw [e1] at x0
  exact ⟨ad, A1, k1, rfl, ha, x0, hk1, hk2, hl⟩
theorem append_two {P : Program} (w : World) (t t' ty e e' : TypeId) (ht : P.underlying t = some (.slice e)) (ht' : P.underlying t' = some (.slice e')) (v x : Value) :
    (Builtin.append_ #[t, t'] ty #[v, x]).run P w = (Builtin.append_ #[t, t] ty #[v, x]).run P w := by
  cases v <;> simp [Builtin.append_, run_underlying ht, run_underlying ht']
theorem wp_append_two {P : Program} {w : World} {o : Oper} {a : Act} {K : Act → World → Prop} {Q : Exit → Act → World → Prop} (s x : Operand) (t t' e' : TypeId)
    (ho : o.op = .call { callee := .builtin .append, args := #[s, x], argTypes := #[t, t'] }) (ht' : P.underlying t' = some (.slice e'))
    (base : Nat) (e : TypeId) (i : TypeInfo) (z : Value) (size bytes : Nat) (ht : P.underlying t = some (.slice e)) (hi : P.info? e = some i) (hz : i.zero = some z)
    (hsize : i.size = size) (hby : i.bytes = bytes) (hzs : z.cells.size = size) (hsz : 0 < size)
    (v : Value) (n : Nat) (xs : List Value) (hs : a.eval s = v) (hown : w.ownsRow base e size v n xs)
    (A : Option Addr) (m c : Nat) (news : List Value) (hx : a.eval x = .slice A m c) (hl : news.length = m * size) (hsrc : 0 < m → ∃ ad, A = some ad ∧ ∀ j u, news[j]? = some u → w.cell? (ad.add j) = some u) (h1 : ∀ u ∈ news, u.oneCell' = true)
    (h63 : n + m ≤ maxLen) (hbytes : (n + m) * bytes ≤ 140737488355328) (hbase : base ≤ w.heap.size)
    (h : ∀ v' w', w'.ownsRow base e size v' (n + m) (xs ++ news) → w.grownBy w' v.ownBlock → (v'.ownBlock = v.ownBlock ∨ v'.ownBlock = some w.heap.size) → K (a.put o.dst v') w') : o.wp P a w K Q := by
  obtain ⟨v', w', hr, h2, h3, h4⟩ := run_append_some (P := P) w t o.type base e i z size bytes ht hi hz hsize hby hzs hsz v n xs hown A m c news hl hsrc h1 h63 hbytes hbase
  rw [← append_two w t t' o.type e e' ht ht'] at hr
  unfold Oper.wp execOp
  simp only [ho, resolve, invoke, builtin, Sem.run_bind, Sem.run_pure, Result.andThen_ok, List.map_toArray, List.map_cons, List.map_nil, hs, hx, hr]
  exact h v' w' h2 h3 h4
theorem wpList_append_two {P : Program} {w : World} {ops : Array Oper} {rest : List Oper} {o : Oper} {a : Act} {Q : Exit → Act → World → Prop} (hgd : o.guard = none) (s x : Operand) (t t' e' : TypeId)
    (ho : o.op = .call { callee := .builtin .append, args := #[s, x], argTypes := #[t, t'] }) (ht' : P.underlying t' = some (.slice e'))
    (base : Nat) (e : TypeId) (i : TypeInfo) (z : Value) (size bytes : Nat) (ht : P.underlying t = some (.slice e)) (hi : P.info? e = some i) (hz : i.zero = some z)
    (hsize : i.size = size) (hby : i.bytes = bytes) (hzs : z.cells.size = size) (hsz : 0 < size)
    (v : Value) (n : Nat) (xs : List Value) (hs : a.eval s = v) (hown : w.ownsRow base e size v n xs)
    (A : Option Addr) (m c : Nat) (news : List Value) (hx : a.eval x = .slice A m c) (hl : news.length = m * size) (hsrc : 0 < m → ∃ ad, A = some ad ∧ ∀ j u, news[j]? = some u → w.cell? (ad.add j) = some u) (h1 : ∀ u ∈ news, u.oneCell' = true)
    (h63 : n + m ≤ maxLen) (hbytes : (n + m) * bytes ≤ 140737488355328) (hbase : base ≤ w.heap.size)
    (h : ∀ v' w', w'.ownsRow base e size v' (n + m) (xs ++ news) → w.grownBy w' v.ownBlock → (v'.ownBlock = v.ownBlock ∨ v'.ownBlock = some w.heap.size) → wpList P ops Q rest (a.put o.dst v') w') : wpList P ops Q (o :: rest) a w :=
  wpList_plain hgd fun _ hK => wp_append_two s x t t' e' ho ht' base e i z size bytes ht hi hz hsize hby hzs hsz v n xs hs hown A m c news hx hl hsrc h1 h63 hbytes hbase fun v' w' h2 h3 h4 => hK _ _ (h v' w' h2 h3 h4)
theorem lie_src {W : World} {B : Nat} {A : Option Addr} {L : List (Int × Int)} (h : Lie sendV 2 W B A L) : 0 < L.length → ∃ ad, A = some ad ∧ ∀ j u, (rowOf sendV L)[j]? = some u → W.cell? (ad.add j) = some u := fun h0 => by
  obtain ⟨ad, rfl, hb⟩ := h h0
  refine ⟨ad, rfl, fun j u hj => ?_⟩
  have := lie_take (h) L.length j u (by rwa [List.take_length])
  exact this
theorem getL_len {cs : List Crv} (h8 : ∀ c ∈ cs, c.2.length ≤ 8) (h6 : cs.length ≤ 6) : (allLines cs).length ≤ 48 := by
  have : ∀ (l : List Crv), (∀ c ∈ l, c.2.length ≤ 8) → (allLines l).length ≤ 8 * l.length := by
    intro l
    induction l with
    | nil => intro _; simp [allLines]
    | cons c l ih =>
      intro h
      have a := ih (fun c hc => h c (List.mem_cons_of_mem _ hc))
      have b := h c (List.mem_cons_self)
      simp only [allLines, List.flatMap_cons, List.length_append, List.length_cons] at *
      omega
  have := this cs h8
  omega
theorem own_two {w : World} {base : Nat} {e : TypeId} {v : Value} {L M : List (Int × Int)} {n : Nat} {xs : List Value} (h : w.ownsRow base e 2 v n xs) (hn : n = L.length + M.length) (hx : xs = rowOf sendV L ++ rowOf sendV M) : OwnL sendV 2 w base e v (L ++ M) := by
  unfold OwnL
  rw [List.length_append, ← hn, show rowOf sendV (L ++ M) = rowOf sendV L ++ rowOf sendV M by simp [rowOf], ← hx]
  exact h
theorem lines_take_len {cs : List Crv} {i : Nat} (h6 : ¬ 6 < cs.length) (hi : i ≤ cs.length) (h8 : ∀ j (hj : j < cs.length), j < i → (cs[j]).2.length ≤ 8) : (allLines (cs.take i)).length ≤ 48 :=
  getL_len (fun c hc => by
    obtain ⟨j, hj, rfl⟩ := List.mem_iff_getElem.1 hc
    have hj2 : j < i ∧ j < cs.length := by simp at hj; omega
    rw [List.getElem_take]
    exact h8 j hj2.2 hj2.1) (by simp; omega)
/-- what a sum of curves comes to. -/
def sumS (cs : List Crv) : List (Int × Int) := (sumL [(0, 0)] (cs.map (·.2))).getD []
def sumK (cs : List Crv) : Int := if (sumL [(0, 0)] (cs.map (·.2))).isSome then 0 else 3
theorem sum_any (A : Option Addr) (k : Nat) (cs : List Crv) (h0 : 0 < cs.length) (hlen : cs.length ≤ 1000000) (hlen2 : ∀ c ∈ cs, c.2.length ≤ 1000000) (hcap : Caps cs) (w : World) (hC : Curves w w.heap.size A cs) (hR : AllR cs) :
    Calls Try.prog 8 #[.slice A cs.length k] w (MakeEnd [] (sumS cs) (sumK cs) w) := by
  refine (sum_good A k cs h0 hlen hlen2 hcap w hC hR).mono ?_
  unfold SumEnd MakeEnd
  rintro e w' (⟨T, v, hs, hT, rfl, hO, hb⟩ | ⟨hs, rfl, hb⟩)
  · exact ⟨v, by simp [sumK, hs], by simpa [sumS, hs] using hO, hb⟩
  · exact ⟨_, by simp only [sumK, hs]; rfl, by simp only [sumS, hs]; exact OwnL.nil _ _ _, hb⟩
set_option maxRecDepth 100000 in
set_option maxHeartbeats 8000000 in
theorem mins_many (A : Option Addr) (cs : List Crv) (k : Nat) (n d : Int) (h6 : 6 < cs.length) (w : World) :
    Calls Try.prog 3 #[.slice A cs.length k, .int .i64 n, .int .i64 d] w fun e w' => e = .returned (.bool true) ∧ Below w.heap.size w w' := by
  have ck := hidd (fun W => known3_any W)
  have h6' : (6 : Int) < (cs.length : Int) := by omega
  go_enter Try.func3, Try.ntmps3
  go_wp2_with fail
  refine (ck.out _).mono ?_
  rintro e w1 ⟨rfl, hb1⟩
  go_wp2_with fail
  go_ret
  exact ⟨rfl, hb1⟩
def SumAt (cs : List Crv) (i : Nat) (T : List (Int × Int)) (K : Int) : Prop :=
  (K = 0 ∧ RgtC T ∧ sumL [(0, 0)] (cs.map (·.2)) = sumL T ((cs.map (·.2)).drop i)) ∨ (K = 3 ∧ T = [] ∧ sumL [(0, 0)] (cs.map (·.2)) = none)
def HighAt (n d : Int) (S : List (Int × Int)) (cs : List Crv) (i : Nat) (x : Int) : Prop :=
  (0 ≤ x ∧ x ≤ (i : Int) * 2000000000000000) ∧ ∃ T, RgtC T ∧ sumL T ((cs.map (·.2)).drop i) = some S ∧ CM.IsMin T n d x
theorem sumAt_first {cs : List Crv} (h0 : 0 < cs.length) (hR : AllR cs) : SumAt cs 1 (cs[0]).2 0 := by
  refine .inl ⟨rfl, hR 0 h0, ?_⟩
  have e := drop_next cs 0 h0
  rw [List.drop_zero] at e
  have e2 := congrArg (sumL [(0, 0)]) e
  rw [sumL_first (hR 0 h0)] at e2
  exact e2
theorem sumAt_next {cs : List Crv} {i : Nat} {T : List (Int × Int)} (hi : i < cs.length) (hR : AllR cs) (hT : RgtC T) (hs : sumL [(0, 0)] (cs.map (·.2)) = sumL T ((cs.map (·.2)).drop i)) (ok : Bool) (hok : ok = true ↔ boundP (CM.tog T (cs[i]).2)) :
    SumAt cs (i + 1) (if ok then CM.low (CM.pairs T (cs[i]).2) else []) (if ok then 0 else 3) := by
  rw [drop_next cs i hi, sumL_cons] at hs
  have hM : RgtC (cs[i]).2 := hR i hi
  cases ok
  · rw [if_neg (fun h => absurd (hok.2 h) Bool.false_ne_true)] at hs
    exact .inr ⟨rfl, rfl, hs⟩
  · have hb := hok.1 rfl
    rw [if_pos hb] at hs
    simp only [if_true]
    rw [← tog_low hT.2.2 hM.2.2]
    exact .inl ⟨rfl, tog_rgt hT hM hb, hs⟩
theorem sumAt_end {cs : List Crv} {i : Nat} {T : List (Int × Int)} {K : Int} (h : SumAt cs i T K) (hi : ¬ K = 0 ∨ cs.length ≤ i) : T = sumS cs ∧ K = sumK cs ∧ (K = 0 → RgtC T ∧ sumL [(0, 0)] (cs.map (·.2)) = some T) := by
  rcases h with ⟨rfl, hT, hs⟩ | ⟨rfl, rfl, hs⟩
  · have hi2 : cs.length ≤ i := by rcases hi with h | h; exact absurd rfl h; exact h
    rw [List.drop_of_length_le (by simpa using hi2)] at hs
    have hs2 : sumL [(0, 0)] (cs.map (·.2)) = some T := hs
    exact ⟨by simp [sumS, hs2], by simp [sumK, hs2], fun _ => ⟨hT, hs2⟩⟩
  · exact ⟨by simp [sumS, hs], by simp [sumK, hs], fun h => absurd h (by decide)⟩
theorem high_first {n d : Int} {S : List (Int × Int)} {cs : List Crv} (h : sumL [(0, 0)] (cs.map (·.2)) = some S) : HighAt n d S cs 0 0 :=
  ⟨⟨by decide, by decide⟩, [(0, 0)], rgt_zero, by rw [List.drop_zero]; exact h, min_zero n d⟩
theorem high_next {n d : Int} {S : List (Int × Int)} {cs : List Crv} {i : Nat} {x y : Int} (hi : i < cs.length) (hR : AllR cs) (h0 : 0 ≤ n) (h1 : n ≤ 1000000) (d0 : 1 ≤ d) (d1 : d ≤ 100) (h : HighAt n d S cs i x) (hy : CM.IsMin (cs[i]).2 n d y) :
    HighAt n d S cs (i + 1) (x + y) ∧ 0 ≤ y ∧ y ≤ 2000000000000000 := by
  obtain ⟨hx, T, hT, hs, hm⟩ := h
  have hM : RgtC (cs[i]).2 := hR i hi
  rw [drop_next cs i hi] at hs
  have hr := min_range2 hM.2.1 h0 h1 d0 d1 hy
  obtain ⟨g1, g2, g3⟩ := sum_at hT hM hs h0 (by omega) hm hy
  exact ⟨⟨by omega, _, g2, g1, g3⟩, hr⟩
theorem high_end {n d : Int} {S : List (Int × Int)} {cs : List Crv} {x y : Int} (h : HighAt n d S cs cs.length x) (hy : CM.IsMin S n d y) : y = x := by
  obtain ⟨hx, T, hT, hs, hm⟩ := h
  rw [List.drop_of_length_le (by simp)] at hs
  obtain rfl : T = S := by simpa [sumL] using hs
  exact hy.same hm
def RightAt (cs : List Crv) (i : Nat) : Prop := 0 < cs.length ∧ ∀ j (h : j < cs.length), j < i → RgtC (cs[j]).2
theorem rightAt_next {cs : List Crv} {i : Nat} (hi : i < cs.length) : RightAt cs (i + 1) ↔ RightAt cs i ∧ RgtC (cs[i]).2 := by
  constructor
  · exact fun ⟨h0, h⟩ => ⟨⟨h0, fun j hj hl => h j hj (by omega)⟩, h i hi (by omega)⟩
  · rintro ⟨⟨h0, h⟩, g⟩
    refine ⟨h0, fun j hj hl => ?_⟩
    by_cases e : j = i
    · subst e; exact g
    · exact h j hj (by omega)
theorem rightAt_end {cs : List Crv} : RightAt cs cs.length ↔ FineC cs := ⟨fun ⟨h0, h⟩ => ⟨h0, fun j hj => h j hj hj⟩, fun ⟨h0, h⟩ => ⟨h0, fun j hj _ => h j hj⟩⟩
theorem mem_small {cs : List Crv} (h : ∀ j (hj : j < cs.length), j < cs.length → (cs[j]).2.length ≤ 8) : ∀ c ∈ cs, c.2.length ≤ 8 := fun c hc => by
  obtain ⟨j, hj, rfl⟩ := List.mem_iff_getElem.1 hc
  exact h j hj hj
end Go.Proofs.Ytpgaklfgbioocaa

