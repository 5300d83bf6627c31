/- The walk of CurveTwice: the curve of lines does not hang on their order; later and later is the sum later. -/
import Derived.Test.YtigfnbofpiomkaaCvX
import Derived.Test.YtigfnbofpiomkaaCvY
namespace Go.Proofs.Ytigfnbofpiomkaa
set_option linter.unusedVariables false
open Go.RowKit Go.Proofs.Ytigfnbofpiomkaa.RowK

theorem may_mem {L : List (Int × Int)} : MayAll L ↔ ∀ x ∈ L, mayB x = true := by
  constructor
  · intro h x hx
    obtain ⟨i, hi, rfl⟩ := List.mem_iff_getElem.1 hx
    have := h i hi
    rwa [← (av_at hi).1, ← (av_at hi).2] at this
  · intro h i hi
    have := h _ (List.getElem_mem hi)
    rwa [← (av_at hi).1, ← (av_at hi).2]
/-- what Make tells of any lines: the curve's lines, the error's number. -/
def Makes (L R : List (Int × Int)) (no : Int) : Prop :=
  (¬ (MayAll L ∧ 0 < L.length) ∧ R = [] ∧ no = 2) ∨ ((MayAll L ∧ 0 < L.length) ∧ (CM.low L).length ≤ 32 ∧ R = CM.low L ∧ no = 0) ∨ ((MayAll L ∧ 0 < L.length) ∧ ¬ (CM.low L).length ≤ 32 ∧ R = [] ∧ no = 3)
theorem makes_some (L : List (Int × Int)) : ∃ R no, Makes L R no := by
  by_cases h : MayAll L ∧ 0 < L.length
  · by_cases g : (CM.low L).length ≤ 32
    · exact ⟨_, _, .inr (.inl ⟨h, g, rfl, rfl⟩)⟩
    · exact ⟨_, _, .inr (.inr ⟨h, g, rfl, rfl⟩)⟩
  · exact ⟨_, _, .inl ⟨h, rfl, rfl⟩⟩
theorem make_any (A : Option Addr) (L : List (Int × Int)) (c : Nat) (hL : L.length ≤ 1000000) (w : World) (hA : Lie sendV 2 w w.heap.size A L) {R : List (Int × Int)} {no : Int} (h : Makes L R no) :
    Calls Try.prog 12 #[.slice A L.length c] w (MakeEnd L R no w) := by
  rcases h with ⟨h, rfl, rfl⟩ | ⟨h, g, rfl, rfl⟩ | ⟨h, g, rfl, rfl⟩
  · exact make_bad A L c hL w hA h
  · exact (make_good A L c hL w hA h.1 h.2).1 g
  · exact (make_good A L c hL w hA h.1 h.2).2 g
theorem makes_mem {L M R : List (Int × Int)} {no : Int} (h : Makes L R no) (hm : ∀ x, x ∈ L ↔ x ∈ M) : Makes M R no := by
  have h1 : MayAll L ↔ MayAll M := by
    rw [may_mem, may_mem]
    exact ⟨fun h x hx => h x ((hm x).2 hx), fun h x hx => h x ((hm x).1 hx)⟩
  have h2 : 0 < L.length ↔ 0 < M.length := by
    rw [List.length_pos_iff_exists_mem, List.length_pos_iff_exists_mem]
    exact ⟨fun ⟨x, hx⟩ => ⟨x, (hm x).1 hx⟩, fun ⟨x, hx⟩ => ⟨x, (hm x).2 hx⟩⟩
  have h3 : 0 < L.length → CM.low L = CM.low M := fun h0 => CM.low_mems (fun e => by rw [e] at h0; simp at h0) hm
  rcases h with ⟨h, e⟩ | ⟨h, g, rfl, e⟩ | ⟨h, g, e⟩
  · exact .inl ⟨by rw [← h1, ← h2]; exact h, e⟩
  · rw [h3 h.2] at g ⊢
    exact .inr (.inl ⟨by rw [← h1, ← h2]; exact h, g, rfl, e⟩)
  · rw [h3 h.2] at g
    exact .inr (.inr ⟨by rw [← h1, ← h2]; exact h, g, e⟩)
theorem makes_rgt {L R : List (Int × Int)} (h : Makes L R 0) : RgtC R := by
  rcases h with ⟨_, _, h⟩ | ⟨h, g, rfl, _⟩ | ⟨_, _, _, h⟩
  · exact absurd h (by decide)
  · exact rgt_of_low h.1 h.2 g
  · exact absurd h (by decide)
theorem makes_len {L R : List (Int × Int)} {no : Int} (h : Makes L R no) : R.length ≤ 32 := by
  rcases h with ⟨_, rfl, _⟩ | ⟨h, g, rfl, _⟩ | ⟨_, _, rfl, _⟩
  · simp
  · exact g
  · simp
set_option maxRecDepth 100000 in
set_option maxHeartbeats 8000000 in
theorem twice_walk (A : Option Addr) (L : List (Int × Int)) (c : Nat) (a b : Int) (hc : L.length ≤ c) (hcm : c ≤ maxLen) (a0 : -9223372036854775808 ≤ a) (a1 : a ≤ 9223372036854775807) (b0 : -9223372036854775808 ≤ b) (b1 : b ≤ 9223372036854775807) (w : World) (hA : Lie sendV 2 w w.heap.size A L) :
    Calls Try.prog 9 #[.slice A L.length c, .int .i64 a, .int .i64 b] w fun e w' => e = .returned (.bool true) ∧ Below w.heap.size w w' := by
  have ck := hidd (fun W => known3_any W)
  have hLm : L.length ≤ maxLen := Nat.le_trans hc hcm
  unfold maxLen at hLm
  by_cases h20 : 20 < L.length
  · have h20' : (20 : Int) < (L.length : Int) := by omega
    clear hA
    go_enter Try.func9, Try.ntmps9
    go_wp2_with fail
    refine (ck.out _).mono ?_
    rintro e w1 ⟨rfl, hb1⟩
    go_wp2_with fail
    go_ret
    exact ⟨rfl, hb1⟩
  have h20' : ¬ (20 : Int) < (L.length : Int) := by omega
  obtain ⟨R, no, hmk⟩ := makes_some L
  have HA := hidd hA
  have HMK := hidd hmk
  have cm := hidd (fun A' M c' W (hm : ∀ x, x ∈ L ↔ x ∈ M) (hM : M.length ≤ 1000000) (hW : Lie sendV 2 W W.heap.size A' M) => make_any A' M c' hM W hW (makes_mem hmk hm))
  have hR32 := makes_len hmk
  have csame := hidd (fun A' B' c' d' W hA hB => same_any A' B' R R c' d' (by omega) (by omega) W hA hB)
  obtain ⟨i0, hi, hz0, hz1, hz2⟩ := info_parts lineInfo
  unfold MakeEnd at cm
  clear hA hmk
  go_enter Try.func9, Try.ntmps9
  go_wp2_with fail
  go_loopg [7, 8] (L.length + 2) (fun g s7 s8 wr => ∃ (j : Nat) (k : Int) (Tr : List (Int × Int)), (j ≤ L.length ∧ k = (j : Int) - 1) ∧ g = j + 2 ∧ s8 = .int .i64 k ∧ OwnL sendV 2 wr w.heap.size 40 s7 Tr ∧ Tr.length + 2 * j = 2 * L.length ∧ Hid (∀ x, x ∈ Tr ↔ x ∈ L.drop j) ∧ Below w.heap.size w wr)
  case atStart => exact ⟨L.length, (L.length : Int) - 1, [], ⟨by omega, rfl⟩, by omega, by first | rfl | simp, OwnL.nil _ _ _, by simp, hidd (by simp), Below.refl _ _⟩
  case round =>
    obtain ⟨j, k, Tr, ⟨hj, hkj⟩, hg, rfl, hO, hTl, HT, hB⟩ := hrel
    have HG := hidd hg
    have HO := hidd hO
    have HB := hidd hB
    have HKJ := hidd hkj
    clear hg hO hB hkj
    cases j with
    | succ m =>
      have hk : k = (m : Int) := by have := HKJ.out; omega
      subst hk
      have hin : m < L.length := by omega
      have hin2 : (m : Int) < (L.length : Int) := by omega
      have hi0 : (0 : Int) ≤ (m : Int) := by omega
      have hj1 : IntKind.i64.wrap ((m : Int) - 1) = (m : Int) - 1 := IntWalk.i64_in _ (by omega)
      obtain ⟨ad, rfl, hab, x0, x1⟩ := (HA.out.keep HB.out).send m hin
      rw [(av_at hin).1] at x0
      rw [(av_at hin).2] at x1
      have hdr : L.drop m = (SM.av L m, SM.sv L m) :: L.drop (m + 1) := by
        rw [List.drop_eq_getElem_cons hin, ← (av_at hin).1, ← (av_at hin).2]
      have HDR := hidd hdr
      have hTl2 : Tr.length ≤ 1000000 := by omega
      have habm : (ad.add (m * 2)).block < w.heap.size := by rw [block_of_add] at *; exact hab
      have hsz := HB.out.size
      have hkp : ∀ w', Below w.heap.size wr w' → w'.cell? (ad.add (m * 2)) = some (.int .i64 (SM.av L m)) ∧ w'.cell? ⟨(ad.add (m * 2)).block, (ad.add (m * 2)).off + 1, none⟩ = some (.int .i64 (SM.sv L m)) := fun w' hb => ⟨(hb.cell habm).trans x0, (hb.cell (p := ⟨(ad.add (m * 2)).block, _, none⟩) habm).trans x1⟩
      have KEEP := hidd hkp
      clear hdr hkp x0 x1 cm csame
      generalize SM.av L m = p0 at *
      generalize SM.sv L m = p1 at *
      have hO := HO.out
      go_wp2_with fail
      go_region_held3 (fun w' => w'.cell? (ad.add (m * 2)) = some (.int .i64 p0) ∧ w'.cell? ⟨(ad.add (m * 2)).block, (ad.add (m * 2)).off + 1, none⟩ = some (.int .i64 p1))
        ((first | exact KEEP.out _ hb1 | exact KEEP.out _ (Below.drew (Below.refl _ _)) | exact KEEP.out _ ((Below.drew (Below.refl _ _)).alloc hsz _) | exact KEEP.out _ (Below.refl _ _)))
        ((first
          | (refine step_append_some (by rfl) (.tmp 30) (.tmp 39) _ (by rfl) w.heap.size 40 i0 _ 2 16 Try.underlying22 hi hz0 hz1 hz2 rfl (by omega) _ _ _ (by rfl) (World.ownsRow.alloc (OwnL.drew hO) _) (some ⟨_, 0, none⟩) 2 2 [.int .i64 p0, .int .i64 p1, .int .i64 p0, .int .i64 p1] (by rfl) (by rfl) (fun _ => ⟨_, rfl, World.news_of_block (cs := #[.int .i64 p0, .int .i64 p1, .int .i64 p0, .int .i64 p1]) (t := 40) (fr := (0, 0)) (heap_alloc_new _ _)⟩) (by simp [Value.oneCell']) (by simp only [maxLen]; omega) (by omega) (by have := HB.out.size; first | omega | (simp; omega)) ?_; intro v1 wa hown1 hgrow1 hat1; have hb0 : Below w.heap.size w wa := Below.grown (below_new (Below.drew HB.out) _) hgrow1 (by have := HB.out.size; first | omega | (simp; omega)) (fun k hk => (OwnL.lt hO k hk).1); have hb1 : Below w.heap.size wr wa := Below.grown ((Below.drew (Below.refl w.heap.size wr)).alloc hsz _) hgrow1 (by first | omega | (simp; omega)) (fun k hk => (OwnL.lt hO k hk).1))))
      all_goals go_wp2_with fail
      all_goals (
        have hO4 : OwnL sendV 2 wa w.heap.size 40 v1 (Tr ++ [(p0, p1), (p0, p1)]) := (by
          have h := hown1
          have e : rowOf sendV (Tr ++ [(p0, p1), (p0, p1)]) = rowOf sendV Tr ++ [.int .i64 p0, .int .i64 p1, .int .i64 p0, .int .i64 p1] := (by simp [rowOf, sendV])
          unfold OwnL
          rw [e, List.length_append]
          exact h)
        have hmem : ∀ x, x ∈ Tr ++ [(p0, p1), (p0, p1)] ↔ x ∈ L.drop m := (fun x => by
          rw [HDR.out, List.mem_append, HT.out x]
          simp only [List.mem_cons, List.not_mem_nil, or_false, or_self]
          exact Or.comm)
        have HM4 := hidd hmem
        have HO4 := hidd hO4
        have HB4 := hidd hb0
        clear hmem hO4 hb0 hown1 hgrow1 hat1
        have hgk := HG.out
        go_roundg (gk - 1)
        case measure => omega
        case rel => exact ⟨m, (m : Int) - 1, Tr ++ [(p0, p1), (p0, p1)], ⟨by omega, rfl⟩, by omega, rfl, HO4.out, by rw [List.length_append]; simp; omega, HM4, HB4.out⟩)
    | zero =>
      have hk : k = -1 := by have := HKJ.out; omega
      subst hk
      have hmem : ∀ x, x ∈ L ↔ x ∈ Tr := fun x => by have := HT.out x; rw [List.drop_zero] at this; exact this.symm
      have cm2 := hidd (fun A' c' W (hW : Lie sendV 2 W W.heap.size A' Tr) => cm.out A' Tr c' W hmem (by omega) hW)
      have cm1 := hidd (fun W (hW : Lie sendV 2 W W.heap.size A L) => cm.out A L c W (fun _ => Iff.rfl) (by omega) hW)
      obtain ⟨A7, c7, rfl, _, _, hl7⟩ := HO.out.lie sendV_len
      have HL7 := hidd hl7
      clear hmem hl7 cm
      go_wp2_with fail
      refine (cm1.out _ (HA.out.below HB.out)).mono ?_
      rintro e w1 ⟨v1, rfl, hO1, hb1⟩
      obtain ⟨A1, c1, rfl, _, _, hl1⟩ := hO1.lie sendV_len
      have HL1 := hidd hl1
      have HL71 := hidd (HL7.out.below hb1)
      have HB1 := hidd (below_step HB.out hb1)
      clear hO1 hb1 hl1
      go_wp2_with fail
      refine (cm2.out _ c7 _ HL71.out).mono ?_
      rintro e w2 ⟨v2, rfl, hO2, hb2⟩
      obtain ⟨A2, c2, rfl, _, _, hl2⟩ := hO2.lie sendV_len
      have HL2 := hidd hl2
      have HL12 := hidd (HL1.out.below hb2)
      have HB2 := hidd (below_step HB1.out hb2)
      clear hO2 hb2 hl2
      go_wp2_with fail
      refine (csame.out A1 A2 c1 c2 _ HL12.out HL2.out).mono ?_
      rintro e w3 ⟨rfl, q, rfl⟩
      have HB3 := hidd (show Below w.heap.size w (w2.drewN q) by have := HB2.out; (repeat' (first | (with_reducible exact Below.refl _ _) | (with_reducible assumption) | (with_reducible apply Below.setCell) | (with_reducible apply Below.alloc) | (with_reducible apply Below.drew) | (with_reducible apply below_drewN) | (with_reducible refine Below.trans ?_ (Below.mono (by assumption) ?_)) | omega | (simp; done) | (simp; omega))))
      have HL13 := hidd (HL12.out.below (show Below w2.heap.size w2 (w2.drewN q) by (repeat' (first | (with_reducible exact Below.refl _ _) | (with_reducible assumption) | (with_reducible apply Below.setCell) | (with_reducible apply Below.alloc) | (with_reducible apply Below.drew) | (with_reducible apply below_drewN) | (with_reducible refine Below.trans ?_ (Below.mono (by assumption) ?_)) | omega | (simp; done) | (simp; omega)))))
      by_cases hno : no = 0
      case neg =>
        have h1 : (no != 0) = true := by simp [hno]
        clear hno
        go_wp2_with fail
        refine (ck.out _).mono ?_
        rintro e w4 ⟨rfl, hb4⟩
        go_wp2_with fail
        go_ret
        exact ⟨by first | rfl | simp, below_step HB3.out hb4⟩
      subst hno
      have HR := hidd (makes_rgt HMK.out)
      by_cases hab : (0 ≤ a ∧ a ≤ 1000) ∧ 0 ≤ b ∧ b ≤ 1000
      case neg =>
        have hs : a < 0 ∨ (¬ a < 0 ∧ b < 0) ∨ (¬ a < 0 ∧ ¬ b < 0 ∧ 1000 < a) ∨ (¬ a < 0 ∧ ¬ b < 0 ∧ ¬ 1000 < a ∧ 1000 < b) := by omega
        clear hab
        rcases hs with h1 | ⟨h1, h2⟩ | ⟨h1, h2, h3⟩ | ⟨h1, h2, h3, h4⟩
        all_goals
          go_wp2_with fail
          refine (ck.out _).mono ?_
          rintro e w4 ⟨rfl, hb4⟩
          go_wp2_with fail
          go_ret
          exact ⟨by first | rfl | simp, below_step HB3.out hb4⟩
      obtain ⟨⟨ha0, ha1⟩, hb0, hb1⟩ := hab
      have tka : tickB a = true := decide_eq_true (by omega)
      have tkb : tickB b = true := decide_eq_true (by omega)
      have tkab : tickB (a + b) = true := decide_eq_true (by omega)
      have hbl := fun t => bound_later HR.out t
      obtain ⟨ok1, hok1⟩ : ∃ ok : Bool, ok = true ↔ boundP (laterL R a) := by
        by_cases h : boundP (laterL R a)
        · exact ⟨true, ⟨fun _ => h, fun _ => rfl⟩⟩
        · exact ⟨false, ⟨fun g => absurd g Bool.false_ne_true, fun g => absurd g h⟩⟩
      obtain ⟨ok2, hok2⟩ : ∃ ok : Bool, ok = true ↔ boundP (laterL R (a + b)) := by
        by_cases h : boundP (laterL R (a + b))
        · exact ⟨true, ⟨fun _ => h, fun _ => rfl⟩⟩
        · exact ⟨false, ⟨fun g => absurd g Bool.false_ne_true, fun g => absurd g h⟩⟩
      have cla := hidd (fun A' c' W hW => later_yes ok1 A' R c' a (by omega) W hW HR.out tka hok1)
      have clab := hidd (fun A' c' W hW => later_yes ok2 A' R c' (a + b) (by omega) W hW HR.out tkab hok2)
      unfold MakeEnd at cla clab
      cases ok1
      case false =>
        have hmono : ok2 = false := by
          cases ok2
          · rfl
          · exfalso
            have h1 := (hbl _).1 (hok2.1 rfl)
            have h2 : ¬ hgt R a (R.length - 1) ≤ 1000000000 := fun h => absurd (hok1.2 ((hbl a).2 h)) Bool.false_ne_true
            have hm := mayB_iff (HR.out.2.1 (R.length - 1) (by have := HR.out.1; omega))
            simp only at hm
            have h3 := Int.mul_nonneg hm.2.2.1 hb0
            unfold hgt at h1 h2
            rw [Int.mul_add] at h1
            omega
        subst hmono
        have cln := hidd (fun A' c' W (hW : Lie sendV 2 W W.heap.size A' []) => later_no A' [] c' b (by decide) W hW (fun h => by have := h.1.1.1; simp at this))
        unfold MakeEnd at cln
        simp only [Bool.false_eq_true, if_false] at cla clab
        clear hbl hok1 hok2 cm1 cm2
        go_wp2_with fail
        refine (cla.out A1 c1 _ HL13.out).mono ?_
        rintro e w4 ⟨v3, rfl, hO3, hb4⟩
        obtain ⟨A3, c3, rfl, _, _, hl3⟩ := hO3.lie sendV_len
        have HL3 := hidd hl3
        have HL14 := hidd (HL13.out.below hb4)
        have HB4 := hidd (below_step HB3.out hb4)
        clear hO3 hb4 hl3
        go_wp2_with fail
        refine (cln.out A3 c3 _ HL3.out).mono ?_
        rintro e w5 ⟨v4, rfl, _, hb5⟩
        have HL15 := hidd (HL14.out.below hb5)
        have HB5 := hidd (below_step HB4.out hb5)
        clear hb5
        go_wp2_with fail
        refine (clab.out A1 c1 _ HL15.out).mono ?_
        rintro e w6 ⟨v5, rfl, _, hb6⟩
        have HB6 := hidd (below_step HB5.out hb6)
        clear hb6
        go_wp2_with fail
        refine (ck.out _).mono ?_
        rintro e w7 ⟨rfl, hb7⟩
        go_wp2_with fail
        go_ret
        exact ⟨by first | rfl | simp, below_step HB6.out hb7⟩
      case true =>
        have hRX := later_rgt HR.out ha0 (hok1.1 rfl)
        have hll := later_later HR.out.2.2 ha0 hb0
        have clb := hidd (fun A' c' W hW => later_yes ok2 A' (laterL R a) c' b (by have := hRX.1; omega) W hW hRX tkb (by rw [hll]; exact hok2))
        have hZ32 : ok2 = true → (laterL R (a + b)).length ≤ 32 := fun h => (hok2.1 h).1
        unfold MakeEnd at clb
        rw [hll] at clb
        have cs2 := hidd (fun (h : ok2 = true) A' B' c' d' W hA hB => same_any A' B' (laterL R (a + b)) (laterL R (a + b)) c' d' (by have := hZ32 h; omega) (by have := hZ32 h; omega) W hA hB)
        simp only [if_true] at cla
        clear hbl hok1 hok2 cm1 cm2 hRX hll hZ32
        generalize laterL R (a + b) = Z at *
        generalize laterL R a = X at *
        go_wp2_with fail
        refine (cla.out A1 c1 _ HL13.out).mono ?_
        rintro e w4 ⟨v3, rfl, hO3, hb4⟩
        obtain ⟨A3, c3, rfl, _, _, hl3⟩ := hO3.lie sendV_len
        have HL3 := hidd hl3
        have HL14 := hidd (HL13.out.below hb4)
        have HB4 := hidd (below_step HB3.out hb4)
        clear hO3 hb4 hl3
        cases ok2
        case false =>
          simp only [Bool.false_eq_true, if_false] at clab clb
          go_wp2_with fail
          refine (clb.out A3 c3 _ HL3.out).mono ?_
          rintro e w5 ⟨v4, rfl, _, hb5⟩
          have HL15 := hidd (HL14.out.below hb5)
          have HB5 := hidd (below_step HB4.out hb5)
          clear hb5
          go_wp2_with fail
          refine (clab.out A1 c1 _ HL15.out).mono ?_
          rintro e w6 ⟨v5, rfl, _, hb6⟩
          have HB6 := hidd (below_step HB5.out hb6)
          clear hb6
          go_wp2_with fail
          refine (ck.out _).mono ?_
          rintro e w7 ⟨rfl, hb7⟩
          go_wp2_with fail
          go_ret
          exact ⟨by first | rfl | simp, below_step HB6.out hb7⟩
        case true =>
          simp only [if_true] at clab clb
          have cs3 := hidd (cs2.out rfl)
          clear cs2
          go_wp2_with fail
          refine (clb.out A3 c3 _ HL3.out).mono ?_
          rintro e w5 ⟨v4, rfl, hO4, hb5⟩
          obtain ⟨A4, c4, rfl, _, _, hl4⟩ := hO4.lie sendV_len
          have HL4 := hidd hl4
          have HL15 := hidd (HL14.out.below hb5)
          have HB5 := hidd (below_step HB4.out hb5)
          clear hb5 hO4 hl4
          go_wp2_with fail
          refine (clab.out A1 c1 _ HL15.out).mono ?_
          rintro e w6 ⟨v5, rfl, hO5, hb6⟩
          obtain ⟨A5, c5, rfl, _, _, hl5⟩ := hO5.lie sendV_len
          have HL5 := hidd hl5
          have HL46 := hidd (HL4.out.below hb6)
          have HB6 := hidd (below_step HB5.out hb6)
          clear hb6 hO5 hl5
          go_wp2_with fail
          refine (cs3.out A4 A5 c4 c5 _ HL46.out HL5.out).mono ?_
          rintro e w7 ⟨rfl, q2, rfl⟩
          have HB7 := hidd (show Below w.heap.size w (w6.drewN q2) by have := HB6.out; (repeat' (first | (with_reducible exact Below.refl _ _) | (with_reducible assumption) | (with_reducible apply Below.setCell) | (with_reducible apply Below.alloc) | (with_reducible apply Below.drew) | (with_reducible apply below_drewN) | (with_reducible refine Below.trans ?_ (Below.mono (by assumption) ?_)) | omega | (simp; done) | (simp; omega))))
          go_wp2_with fail
          refine (ck.out _).mono ?_
          rintro e w8 ⟨rfl, hb8⟩
          go_wp2_with fail
          go_ret
          exact ⟨by simp, below_step HB7.out hb8⟩
end Go.Proofs.Ytigfnbofpiomkaa
