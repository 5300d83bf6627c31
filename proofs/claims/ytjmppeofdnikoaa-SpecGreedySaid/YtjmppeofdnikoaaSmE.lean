/- Who sends Most as early as the spec allows keeps to it. The walk of SpecGreedy. -/
import Derived.Test.YtjmppeofdnikoaaSmC
import Derived.Test.YtjmppeofdnikoaaSmD
namespace Go.Proofs.Ytjmppeofdnikoaa
set_option linter.unusedVariables false
open Go.RowKit RowK

theorem sendInfo : (Try.prog.info? 40).map (fun i => (i.zero, i.size, i.bytes)) = some (some (.agg #[.int .i64 0, .int .i64 0]), 2, 16) := by kernel_rfl
theorem keepsS_of_run {a : Spc} (ha : rightS a = true) {L : List (Int × Int)} (h : SM.KP (SM.av L) (SM.sv L) a.1 a.2.1 a.2.2.1 a.2.2.2.1 a.2.2.2.2 L.length) : keepsS a L = true := by
  have h1 := rightS_iff ha
  have h6 := (SM.fb_all (by omega) (by omega) L).2 h
  simp only [keepsS, fb0, h6, beq_self_eq_true]
theorem keepsS_nil {a : Spc} (ha : rightS a = true) : keepsS a [] = true :=
  keepsS_of_run ha ⟨fun i hi => absurd hi (by simp), fun i k _ hk => absurd hk (by simp)⟩
/-- two thousand ticks behind the last one there is room. -/
theorem greedy_room {a : Spc} (ha : rightS a = true) {L : List (Int × Int)} {at_ t : Int} (h : keepsS a L = true) (hn : SM.now (SM.av L) L.length = at_) (ht : at_ + 2000 ≤ t) (h0 : 0 ≤ t) (h1 : t ≤ 2147483647) : keepsS a (L ++ [(t, a.2.2.2.1)]) = true := by
  have q := rightS_iff ha
  refine keepsS_of_run ha ?_
  have := SM.greedy (keepsS_run ha h) hn (by omega) (by omega) (by omega) (by omega) (by omega) (by omega) ht h0 h1
  simpa using this
theorem now_snoc (L : List (Int × Int)) (x : Int × Int) : SM.now (SM.av (L ++ [x])) (L ++ [x]).length = x.1 := by
  have : (L ++ [x]).length = L.length + 1 := by simp
  rw [this]
  exact SM.av_last.1

theorem keepsS_any {p r u m l : Int} (hr : rightS (p, r, u, m, l) = true) (A : Option Addr) (L : List (Int × Int)) (c : Nat) (hL : L.length ≤ 1000000) (W : World) (hl : Lie sendV 2 W W.heap.size A L) :
    Calls Try.prog 15 #[.agg #[.int .i64 p, .int .i64 r, .int .i64 u, .int .i64 m, .int .i64 l], .slice A L.length c] W fun e w' => e = .returned (.tuple #[.bool (keepsS (p, r, u, m, l) L), .int .i64 0]) ∧ Below W.heap.size W w' := by
  have h := keeps_any p r u m l A L c hL W hl
  have e := keepsR_right hr L
  dsimp only at e
  rw [e] at h
  exact h
theorem HasSpec.grown {w w' : World} {b : Nat} {p r u m l : Int} {row : Option Nat} (h : HasSpec w b p r u m l) (hg : w.grownBy w' row) (hne : row ≠ some b) : HasSpec w' b p r u m l :=
  ⟨Nat.lt_of_lt_of_le h.1 hg.size, (hg.cell_far ⟨b, 0, none⟩ h.1 (fun e => hne e.symm)).trans h.2.1, (hg.cell_far ⟨b, 1, none⟩ h.1 (fun e => hne e.symm)).trans h.2.2.1, (hg.cell_far ⟨b, 2, none⟩ h.1 (fun e => hne e.symm)).trans h.2.2.2.1, (hg.cell_far ⟨b, 3, none⟩ h.1 (fun e => hne e.symm)).trans h.2.2.2.2.1, (hg.cell_far ⟨b, 4, none⟩ h.1 (fun e => hne e.symm)).trans h.2.2.2.2.2⟩
theorem greedy_most {p r u m l : Int} (hr : rightS (p, r, u, m, l) = true) {L : List (Int × Int)} {at_ : Int} (h : keepsS (p, r, u, m, l) L = true) (hs : ∀ x ∈ L, x.2 = m) (hn : SM.now (SM.av L) L.length = at_) (h1 : 1 ≤ L.length) : (L.length : Int) * m ≤ allowsV p r u m at_ := by
  have q := rightS_iff hr
  dsimp only at q
  exact SM.greedy_all (keepsS_run hr h) hn hs (by omega) (by omega) h1
set_option maxRecDepth 100000 in
set_option maxHeartbeats 8000000 in
theorem greedy_walk (p r u m l n : Int) (n0 : -9223372036854775808 ≤ n) (n1 : n ≤ 9223372036854775807) (w : World) :
    Calls Try.prog 4 #[.agg #[.int .i64 p, .int .i64 r, .int .i64 u, .int .i64 m, .int .i64 l], .int .i64 n] w fun e w' => e = .returned (.bool true) ∧ Below w.heap.size w w' := by
  have ck := hidd (fun W => known_any W)
  have cc := hidd (fun W => check_any p r u m l W)
  by_cases hR : rightS (p, r, u, m, l) = true
  · have hr : rightB p r u m l = true := hR
    have hq := rightB_iff hr
    rw [hr] at cc
    by_cases hn1 : n < 1
    · go_enter Try.func4, Try.ntmps4
      go_wp2_with fail
      refine (cc.out _).mono ?_
      rintro e w1 ⟨rfl, hb1⟩
      go_wp2_with fail
      refine (ck.out _).mono ?_
      rintro e w2 ⟨rfl, hb2⟩
      go_wp2_with fail
      go_ret
      exact ⟨rfl, below_step (below_step (below_new (Below.refl _ _) _) hb1) hb2⟩
    · by_cases hn2 : 20 < n
      · go_enter Try.func4, Try.ntmps4
        go_wp2_with fail
        refine (cc.out _).mono ?_
        rintro e w1 ⟨rfl, hb1⟩
        go_wp2_with fail
        refine (ck.out _).mono ?_
        rintro e w2 ⟨rfl, hb2⟩
        go_wp2_with fail
        go_ret
        exact ⟨rfl, below_step (below_step (below_new (Below.refl _ _) _) hb1) hb2⟩
      · have CK := hidd (fun A L c hL W hl => keepsS_any hR A L c hL W hl)
        have hn3 : 1 ≤ n := by omega
        have hn4 : n ≤ 20 := by omega
        clear hn1 hn2
        obtain ⟨i0, hi0, hz0, hz1, hz2⟩ := info_parts sendInfo
        have HR := hidd hR
        have HRB := hidd hr
        clear hR hr
        go_enter Try.func4, Try.ntmps4
        go_wp2_with fail
        refine (cc.out _).mono ?_
        rintro e w1 ⟨rfl, hb1⟩
        have Hs := (HasSpec.new w 23 p r u m l).step hb1
        have Lw := below_step (below_new (Below.refl w.heap.size w) _) hb1
        go_wp2_with fail
        have HHs := hidd Hs
        have HLw := hidd Lw
        clear Hs Lw hb1
        go_loopg [5, 6, 7] 21 (fun k s5 s6 s7 wr => ∃ (L : List (Int × Int)) (at_ : Int), (L.length : Int) ≤ n ∧ (L.length : Int) + k = 21 ∧ OwnL sendV 2 wr (w.heap.size + 1) 40 s5 L ∧ s6 = .int .i64 at_ ∧ s7 = .int .i64 (L.length : Int) ∧ keepsS (p, r, u, m, l) L = true ∧ (∀ x ∈ L, x.2 = m) ∧ SM.now (SM.av L) L.length = at_ ∧ (0 ≤ at_ ∧ at_ ≤ 2000 * (L.length : Int)) ∧ Below w.heap.size w wr ∧ HasSpec wr w.heap.size p r u m l)
        case atStart => exact ⟨[], 0, by simp; omega, by simp, OwnL.nil _ _ _, rfl, rfl, keepsS_nil HR.out, by simp, rfl, by simp, HLw.out, HHs.out⟩
        case round =>
          obtain ⟨L, at_, hLn, hk, hO, rfl, rfl, hkeep, hall, hnow, ⟨hat0, hat1⟩, hB, hS⟩ := hrel
          have HK := hidd hk
          have HKE := hidd hkeep
          have HALL := hidd hall
          have HNOW := hidd hnow
          have HB := hidd hB
          have HS := hidd hS
          have HO := hidd hO
          clear hk hkeep hall hnow hB hS hO
          obtain ⟨A, c, rfl, hc0, hc1, hlie⟩ := HO.out.lie sendV_len
          have HLie := hidd hlie
          clear hlie
          by_cases hlt : (L.length : Int) < n
          · go_wp2_with fail
            obtain ⟨gko, rfl⟩ : ∃ g, g = gk := ⟨gk, rfl⟩
            have hL20 : L.length ≤ 20 := by omega
            go_loopg [6, 8] 2002 (fun g s6 s8 wx => ∃ j : Int, (0 ≤ j ∧ j ≤ 2000) ∧ j + g = 2002 ∧ s6 = .int .i64 (at_ + j) ∧ s8 = .int .i64 j ∧ Below w.heap.size w wx ∧ HasSpec wx w.heap.size p r u m l ∧ OwnL sendV 2 wx (w.heap.size + 1) 40 (.slice A L.length c) L)
            case atStart => exact ⟨0, by omega, by omega, by simp, rfl, HB.out, HS.out, HO.out⟩
            case round =>
              obtain ⟨j, ⟨hj0, hj1⟩, hg, rfl, rfl, hB2, hS2, hO2⟩ := hrel
              have HG := hidd hg
              have HB2 := hidd hB2
              have HS2 := hidd hS2
              have HO2 := hidd hO2
              clear hg hB2 hS2 hO2 HB HS HO HLie
              have hroom : j = 2000 → keepsS (p, r, u, m, l) (L ++ [(at_ + j, m)]) = true := fun h => greedy_room HR.out HKE.out HNOW.out (by omega) (by omega) (by omega)
              have HROOM := hidd hroom
              have ckl := hidd (fun A' c' W hl => CK.out A' (L ++ [(at_ + j, m)]) c' (by simp; omega) W hl)
              have eL : (L ++ [(at_ + j, m)]).length = L.length + 1 := by simp
              rw [eL] at ckl
              clear eL
              obtain ⟨b, hb⟩ : ∃ b, keepsS (p, r, u, m, l) (L ++ [(at_ + j, m)]) = b := ⟨_, rfl⟩
              rw [hb] at ckl HROOM
              have HBB := hidd hb
              clear hroom hb
              have htn : 0 ≤ at_ + j ∧ at_ + j ≤ 42000 := by omega
              obtain ⟨ht0, ht1⟩ := htn
              generalize hT : at_ + j = T at *
              have HT := hidd hT
              clear hT
              obtain ⟨zs, r0, r1, r2, r3, r4⟩ := id HS2.out
              go_wp2_with fail
              go_cut [9, 10] (fun s9 s10 wy => s9 = .bool b ∧ s10 = .int .i64 0 ∧ Below w.heap.size w wy ∧ HasSpec wy w.heap.size p r u m l ∧ OwnL sendV 2 wy (w.heap.size + 1) 40 (.slice A L.length c) L)
              case first =>
                have hB2 := HB2.out
                have hS2 := HS2.out
                have hO2 := HO2.out
                have hT1 : IntKind.i64.wrap T = T := IntWalk.i64_in _ (by omega)
                clear HALL HNOW HKE HROOM HBB HT hT1
                go_region_held3 (fun w' => w'.cell? ⟨w.heap.size, 0, none⟩ = some (.int .i64 p) ∧ w'.cell? ⟨w.heap.size, 1, none⟩ = some (.int .i64 r) ∧ w'.cell? ⟨w.heap.size, 2, none⟩ = some (.int .i64 u) ∧ w'.cell? ⟨w.heap.size, 3, none⟩ = some (.int .i64 m) ∧ w'.cell? ⟨w.heap.size, 4, none⟩ = some (.int .i64 l))
                  ((first | exact (hS2.step hbF).2 | exact (hS2.step hb2).2 | exact ((hS2.step hb1).past _).2 | exact (hS2.step hb1).2 | exact (hS2.past _).2 | exact hS2.2))
                  ((first
                    | (refine step_append_some (by rfl) (.const (.slice none 0 0)) (.tmp 35) _ (by rfl) wr.heap.size 40 i0 _ 2 16 Try.underlying24 hi0 hz0 hz1 hz2 rfl (by omega) (.slice none 0 0) 0 [] (by rfl) (World.ownsRow_nil _ _ _ _) A L.length c (rowOf sendV L) (by rfl) (row_len sendV_len L) (by first | with_reducible exact OwnL.src hO2 | with_reducible exact OwnL.src (OwnL.drew hO2) | with_reducible exact OwnL.src (OwnL.alloc hO2 _) | with_reducible exact OwnL.src (OwnL.drew (OwnL.alloc hO2 _))) (rowOf_one sendV_one L) (by simp only [maxLen]; omega) (by omega) (by (first | omega | (simp; done) | (simp; omega))) ?_; intro v1 wa hown1 hgrow1 hat1; have hb1 : Below wr.heap.size wr wa := Below.grown (by (repeat' (first | (with_reducible exact Below.refl _ _) | (with_reducible assumption) | (with_reducible apply Below.setCell) | (with_reducible apply Below.alloc) | (with_reducible apply Below.drew) | (with_reducible apply below_drewN) | (with_reducible refine Below.trans ?_ (Below.mono (by assumption) ?_)) | omega | (simp; done) | (simp; omega)))) hgrow1 (by (first | omega | (simp; done) | (simp; omega))) (by intro k hk; simp [Value.ownBlock] at hk); have hz1' := Below.size hb1)
                    | (refine step_append_some (by rfl) (.tmp 36) (.tmp 41) _ (by rfl) wr.heap.size 40 i0 _ 2 16 Try.underlying24 hi0 hz0 hz1 hz2 rfl (by omega) v1 (0 + L.length) ([] ++ rowOf sendV L) (by rfl) (World.ownsRow.alloc hown1 _) (some ⟨wa.heap.size, 0, none⟩) 1 1 [.int .i64 T, .int .i64 m] (by rfl) (by rfl) (fun _ => ⟨_, rfl, World.news_of_block (cs := #[.int .i64 T, .int .i64 m]) (t := 40) (fr := (0, 0)) (heap_alloc_new wa _)⟩) (by simp [Value.oneCell']) (by simp only [maxLen]; omega) (by omega) (by (first | omega | (simp; done) | (simp; omega))) ?_; intro v2 wb hown2 hgrow2 hat2; have hb2 : Below wr.heap.size wr wb := Below.grown (by (repeat' (first | (with_reducible exact Below.refl _ _) | (with_reducible assumption) | (with_reducible apply Below.setCell) | (with_reducible apply Below.alloc) | (with_reducible apply Below.drew) | (with_reducible apply below_drewN) | (with_reducible refine Below.trans ?_ (Below.mono (by assumption) ?_)) | omega | (simp; done) | (simp; omega)))) hgrow2 (by (first | omega | (simp; done) | (simp; omega))) (fun k hk => (World.ownsRow.lt hown1 k hk).1); have hz2' := Below.size hb2; obtain ⟨A2, c2, e2, _, _, hl2⟩ := (OwnL.snoc (f := sendV) (L := L) (x := (T, m)) hown2 (by omega) (by simp [sendV])).lie sendV_len; have e3 : v2 = .slice A2 (L.length + 1) c2 := (by simpa using e2); subst e3; clear e2)
                    | (refine step_append_some (by rfl) (.tmp 36) (.tmp 41) _ (by rfl) wr.heap.size 40 i0 _ 2 16 Try.underlying24 hi0 hz0 hz1 hz2 rfl (by omega) v1 (0 + L.length) ([] ++ rowOf sendV L) (by rfl) hown1 (some ⟨wr.heap.size, 0, none⟩) 1 1 [.int .i64 T, .int .i64 m] (by rfl) (by rfl) (fun _ => ⟨_, rfl, World.news_of_block (cs := #[.int .i64 T, .int .i64 m]) (t := 40) (fr := (0, 0)) ((hgrow1.block wr.heap.size (by simp) (by simp [Value.ownBlock])).trans (heap_alloc_new wr _))⟩) (by simp [Value.oneCell']) (by simp only [maxLen]; omega) (by omega) (by (first | omega | (simp; done) | (simp; omega))) ?_; intro v2 wb hown2 hgrow2 hat2; have hb2 : Below wr.heap.size wr wb := Below.grown hb1 hgrow2 (by (first | omega | (simp; done) | (simp; omega))) (fun k hk => (World.ownsRow.lt hown1 k hk).1); have hz2' := Below.size hb2; obtain ⟨A2, c2, e2, _, _, hl2⟩ := (OwnL.snoc (f := sendV) (L := L) (x := (T, m)) hown2 (by omega) (by simp [sendV])).lie sendV_len; have e3 : v2 = .slice A2 (L.length + 1) c2 := (by simpa using e2); subst e3; clear e2)
                    | (go_at_call 15; refine (ckl.out _ _ _ hl2).mono ?_; rintro E w3 ⟨rfl, hb3⟩; have hbF : Below wr.heap.size wr w3 := hb2.trans (hb3.mono hz2'))))
                all_goals go_wp2_with fail
                all_goals go_meet
                all_goals exact ⟨rfl, rfl, hB2.trans (hbF.mono hB2.size), hS2.step hbF, hO2.below hbF⟩
              case rest =>
                obtain ⟨rfl, rfl, hB3, hS3, hO3⟩ := hcut
                have HB3 := hidd hB3
                have HS3 := hidd hS3
                have HO3 := hidd hO3
                clear hB3 hS3 hO3 zs r0 r1 r2 r3 r4
                cases b
                · have hjl : j < 2000 := by
                    rcases Int.lt_or_le j 2000 with h | h
                    · exact h
                    · have := HROOM.out (by omega)
                      cases this
                  go_wp2_with fail
                  have hg := HG.out
                  have ht := HT.out
                  go_roundg (gk - 1)
                  case measure => omega
                  case rel => exact ⟨j + 1, by omega, by omega, by congr 1; omega, rfl, HB3.out, HS3.out, HO3.out⟩
                · obtain ⟨zs, r0, r1, r2, r3, r4⟩ := id HS3.out
                  go_wp2_with (at_builtin; refine wpList_append_some (by rfl) (.tmp 57) (.tmp 62) _ (by rfl) (w.heap.size + 1) 40 i0 _ 2 16 Try.underlying24 hi0 hz0 hz1 hz2 rfl (by omega) (.slice A L.length c) L.length (rowOf sendV L) (by rfl) (World.ownsRow.alloc HO3.out _) (some ⟨_, 0, none⟩) 1 1 [.int .i64 T, .int .i64 m] (by rfl) (by rfl) (fun _ => ⟨_, rfl, World.news_of_block (cs := #[.int .i64 T, .int .i64 m]) (t := 40) (fr := (0, 0)) (heap_alloc_new _ _)⟩) (by simp [Value.oneCell']) (by simp only [maxLen]; omega) (by omega) (by (first | omega | (simp; done) | (simp; omega))) ?_; intro v1 wa hown1 hgrow1 hat1)
                  have hk := HK.out
                  have hB4 : Below w.heap.size w wa := Below.grown (below_new HB3.out _) hgrow1 (by have := HB3.out.size; simp; omega) (fun k hk => by have := (OwnL.lt HO3.out k hk).1; omega)
                  have hS4 : HasSpec wa w.heap.size p r u m l := HasSpec.grown (HS3.out.past _) hgrow1 (fun e => by have := (OwnL.lt HO3.out _ e).1; omega)
                  go_roundg (gko - 1)
                  case measure => omega
                  case rel => exact ⟨L ++ [(T, m)], T, by simp; omega, by simp; omega, OwnL.snoc (f := sendV) (L := L) (x := (T, m)) hown1 rfl rfl, rfl, by simp, HBB.out, fun x hx => by
                    rcases List.mem_append.1 hx with h | h
                    · exact HALL.out x h
                    · simp at h; subst h; rfl, now_snoc L (T, m), by have := HT.out; simp; omega, hB4, hS4⟩
          · have hL1 : 1 ≤ L.length ∧ (L.length : Int) = n := by omega
            obtain ⟨hL1, hLe⟩ := hL1
            have hmost := greedy_most HR.out HKE.out HALL.out HNOW.out hL1
            rw [hLe] at hmost
            have cf := hidd (fun W hl => CK.out A L c (by omega) W hl)
            rw [HKE.out] at cf
            have hti : tickB at_ = true := decide_eq_true (by omega)
            have ca := hidd (fun W => allows_any p r u m l at_ W)
            have hal : allowsR p r u m l at_ = (allowsV p r u m at_, 0) := by unfold allowsR; rw [if_pos ⟨HRB.out, hti⟩]
            rw [hal] at ca
            dsimp only at ca
            have hprod : 0 ≤ n * m ∧ n * m ≤ 40000 := by
              refine ⟨Int.mul_nonneg (by omega) (by omega), ?_⟩
              have : n * m ≤ 20 * 2000 := Int.mul_le_mul hn4 (by omega) (by omega) (by omega)
              omega
            obtain ⟨hp0, hp1⟩ := hprod
            have hmul : IntKind.i64.wrap (n * m) = n * m := IntWalk.i64_in _ (by omega)
            generalize hP : n * m = P at *
            have HP := hidd hP
            have HM := hidd hmul
            generalize allowsV p r u m at_ = V at *
            clear hal hti hP hmul
            obtain ⟨zs, r0, r1, r2, r3, r4⟩ := id HS.out
            go_wp2_with fail
            refine (cf.out _ (HLie.out)).mono ?_
            rintro e w3 ⟨rfl, hb3⟩
            have HB3 := hidd (below_step HB.out hb3)
            have HS3 := hidd (HS.out.step hb3)
            clear zs r0 r1 r2 r3 r4
            obtain ⟨zs, r0, r1, r2, r3, r4⟩ := id HS3.out
            go_wp2_with fail
            refine (ca.out _).mono ?_
            rintro e w4 ⟨rfl, hb4⟩
            have HB4 := hidd (below_step HB3.out hb4)
            have hw1 : IntKind.i64.wrap (n * m) = P := by rw [HP.out]; exact HM.out
            have hw2 : wrap64 (n * m) = P := by rw [← hw1]; simp [IntKind.wrap_i64, wrap64]
            have hled : decide (P ≤ V) = true := decide_eq_true hmost
            go_wp2_with fail
            refine (ck.out _).mono ?_
            rintro e w5 ⟨rfl, hb5⟩
            go_wp2_with fail
            go_ret
            exact ⟨by simp, below_step HB4.out hb5⟩
  · have hr : rightB p r u m l = false := by
      have : ¬ rightB p r u m l = true := hR
      simpa using this
    rw [hr] at cc
    go_enter Try.func4, Try.ntmps4
    go_wp2_with fail
    refine (cc.out _).mono ?_
    rintro e w1 ⟨rfl, hb1⟩
    go_wp2_with fail
    refine (ck.out _).mono ?_
    rintro e w2 ⟨rfl, hb2⟩
    go_wp2_with fail
    go_ret
    exact ⟨rfl, below_step (below_step (below_new (Below.refl _ _) _) hb1) hb2⟩
end Go.Proofs.Ytjmppeofdnikoaa
