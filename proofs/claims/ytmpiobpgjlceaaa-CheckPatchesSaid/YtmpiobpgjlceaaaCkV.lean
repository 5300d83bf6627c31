/- The walk of CheckPatches: a sum behind a change is that of the bytes so changed. -/
import Derived.Test.YtmpiobpgjlceaaaCkU
namespace Go.Proofs.Ytmpiobpgjlceaaa
set_option linter.unusedVariables false
open Go.RowKit

theorem calls_flip {P : Program} {f : FuncId} {args : Array Value} {w : World} {v : Value} (h : Calls P f args w fun e w' => e = .returned v ∧ w = w') : Calls P f args w fun e w' => e = .returned v ∧ w' = w :=
  h.mono fun _ _ ⟨he, hm⟩ => ⟨he, hm.symm⟩
set_option maxHeartbeats 8000000 in
theorem patches_walk (A : Option Addr) (L : List Int) (c : Nat) (pair x0 x1 x2 : Int) (hc : L.length ≤ c) (hm : c ≤ maxLen) (hb : Bytes L) (p0 : -9223372036854775808 ≤ pair) (p1 : pair ≤ 9223372036854775807) (hx0 : 0 ≤ x0 ∧ x0 ≤ 65535) (hx1 : 0 ≤ x1 ∧ x1 ≤ 65535) (hx2 : 0 ≤ x2 ∧ x2 ≤ 65535) (w : World) (hl : Lie byV 1 w w.heap.size A L) :
    Calls Try.prog 6 #[.slice A L.length c, .int .i64 pair, .agg #[.int .u16 x0, .int .u16 x1, .int .u16 x2]] w fun e w' => e = .returned (.bool true) ∧ Below w.heap.size w w' := by
  have ck := hidd (fun W => known_any W)
  by_cases hlen : L.length ≤ 2000
  rotate_left
  · have h1 : decide ((2000 : Int) < (L.length : Int)) = true := decide_eq_true (by omega)
    have h2 : (L.length : Int) > 2000 := by omega
    clear hlen hl hb
    go_enter Try.func6, Try.ntmps6
    go_wp2_with fail
    go_quiet (fail)
    go_wp2_with fail
    refine (ck.out _).mono ?_
    rintro e w2 ⟨rfl, hb2⟩
    have HB2 := hidd (show Below w.heap.size w w2 by (repeat' (first | (with_reducible exact Below.refl _ _) | (with_reducible assumption) | (with_reducible apply Below.setCell) | (with_reducible apply Below.alloc) | (with_reducible apply Below.drew) | (with_reducible apply below_drewN) | (with_reducible refine Below.trans ?_ (Below.mono (by assumption) ?_)) | omega | (simp; done) | (simp; omega))))
    go_wp2_with fail
    go_ret
    exact ⟨rfl, HB2.out⟩
  · have cp := hidd (fun W => calls_flip (Patch_any x0 x1 x2 hx0 hx1 hx2 W))
    have cr := hidd (fun W => calls_flip (refPatch_any x0 x1 x2 hx0 hx1 hx2 W))
    have hw0 : W16 (65535 - put (put (65535 - x0) (65535 - x1)) x2) := by
      have := put_w (put_w (show W16 (65535 - x0) by unfold W16; omega) (show W16 (65535 - x1) by unfold W16; omega)) (show W16 x2 from hx2)
      unfold W16 at *; omega
    generalize 65535 - put (put (65535 - x0) (65535 - x1)) x2 = R at *
    have h1 : decide ((2000 : Int) < (L.length : Int)) = false := decide_eq_false (by omega)
    have y0 : IntKind.i64.wrap x0 = x0 := IntWalk.i64_in _ (by omega)
    have y1 : IntKind.i64.wrap x1 = x1 := IntWalk.i64_in _ (by omega)
    have y2 : IntKind.i64.wrap x2 = x2 := IntWalk.i64_in _ (by omega)
    have yR : IntKind.i64.wrap R = R := IntWalk.i64_in _ (by unfold W16 at hw0; omega)
    go_enter Try.func6, Try.ntmps6
    go_wp2_with fail
    go_quiet ((first | (go_at_call 22; exact Calls.quiet_of_same (cp.out _)) | (go_at_call 23; exact Calls.quiet_of_same (cr.out _))))
    have HW0 : ∀ W, W = (w.alloc (.cells #[.int .u16 x0, .int .u16 x1, .int .u16 x2] 43)).drewN nq → Below w.heap.size w W ∧ w.heap.size < W.heap.size ∧ W.cell? ⟨w.heap.size, 0, none⟩ = some (.int .u16 x0) := by
      rintro W rfl
      have hs : (w.alloc (.cells #[.int .u16 x0, .int .u16 x1, .int .u16 x2] 43)).heap.size = w.heap.size + 1 := by simp
      refine ⟨by (repeat' (first | (with_reducible exact Below.refl _ _) | (with_reducible assumption) | (with_reducible apply Below.setCell) | (with_reducible apply Below.alloc) | (with_reducible apply Below.drew) | (with_reducible apply below_drewN) | (with_reducible refine Below.trans ?_ (Below.mono (by assumption) ?_)) | omega | (simp; done) | (simp; omega))), ?_, ?_⟩
      · show w.heap.size < (w.alloc (.cells #[.int .u16 x0, .int .u16 x1, .int .u16 x2] 43)).heap.size
        omega
      · show (w.alloc (.cells #[.int .u16 x0, .int .u16 x1, .int .u16 x2] 43)).cell? ⟨w.heap.size, 0, none⟩ = some (.int .u16 x0)
        simp [go_sem]
    generalize hW0 : (w.alloc (.cells #[.int .u16 x0, .int .u16 x1, .int .u16 x2] 43)).drewN nq = W0
    obtain ⟨hb0, hs0, hc0⟩ := HW0 W0 hW0.symm
    have HB0 := hidd hb0
    have HC0 := hidd hc0
    have hml : L.length / 2 * 2 ≤ L.length := by omega
    have hT : (L.take (L.length / 2 * 2)).length = L.length / 2 * 2 := by rw [List.length_take]; omega
    have hbT : Bytes (L.take (L.length / 2 * 2)) := fun x hx => hb x (List.mem_of_mem_take hx)
    have hlT := hl.takeB (L.length / 2 * 2)
    generalize L.take (L.length / 2 * 2) = M at *
    have hm2 : (L.length / 2 * 2) % 2 = 0 := by omega
    have hm3 : (L.length / 2 * 2) ≤ 2000 := by omega
    clear hl hb HW0 hW0 cp cr y0 y1 y2 yR hw0 hb0 hc0 hml
    go_upto_region 4 with fail
    generalize L.length / 2 * 2 = m at *
    have HL := hidd hlT
    have HT := hidd hT
    have HBT := hidd hbT
    have cn := hidd (fun A c W h => nought_any A M c (by omega) W h)
    rw [hT] at cn
    have q1 : (m : Int).tdiv 2 = ((m / 2 : Nat) : Int) := by rw [Int.tdiv_eq_ediv_of_nonneg (by omega)]; omega
    have q2 : IntKind.i64.wrap ((m / 2 : Nat) : Int) = ((m / 2 : Nat) : Int) := IntWalk.i64_in _ (by omega)
    clear hlT hT hbT hlen h1
    rcases Int.lt_or_le pair 0 with hc1 | hc1
    · clear cn q1 q2 HL HT HBT HC0
      go_wp2_with fail
      refine (ck.out _).mono ?_
      rintro e wk ⟨rfl, hbk⟩
      have HBk := hidd (below_step HB0.out hbk)
      clear hbk
      go_wp2_with fail
      go_ret
      exact ⟨rfl, HBk.out⟩
    rcases Int.lt_or_le pair ((m / 2 : Nat) : Int) with hc2 | hc2
    rotate_left
    · have g1 : ¬ (pair < 0) := by omega
      have g2 : pair ≥ ((m / 2 : Nat) : Int) := hc2
      clear cn HL HT HBT HC0 hc1 hc2
      generalize m / 2 = h at *
      go_wp2_with fail
      refine (ck.out _).mono ?_
      rintro e wk ⟨rfl, hbk⟩
      have HBk := hidd (below_step HB0.out hbk)
      clear hbk
      go_wp2_with fail
      go_ret
      exact ⟨rfl, HBk.out⟩
    obtain ⟨p, rfl⟩ := Int.eq_ofNat_of_zero_le hc1
    have hpm : p < m / 2 := by omega
    obtain ⟨h, hh⟩ : ∃ h, m / 2 = h := ⟨_, rfl⟩
    rw [hh] at q1 q2 hc2 hpm
    obtain ⟨i, hi⟩ : ∃ i, 2 * p = i := ⟨_, rfl⟩
    obtain ⟨i1, hi1⟩ : ∃ i1, i + 1 = i1 := ⟨_, rfl⟩
    have him : i1 < m := by omega
    have him0 : i < m := by omega
    have g1 : ¬ ((p : Int) < 0) := by omega
    have g2 : ¬ ((p : Int) ≥ (h : Int)) := by omega
    have q3 : IntKind.i64.wrap (2 * (p : Int)) = (i : Int) := by rw [IntWalk.i64_in _ (by omega)]; omega
    have q4 : IntKind.i64.wrap ((i : Int) + 1) = (i1 : Int) := by rw [IntWalk.i64_in _ (by omega)]; omega
    have hiev : i % 2 = 0 := by omega
    have HPM := hidd hpm
    have HH := hidd hh
    have HI := hidd hi
    have HI1 := hidd hi1
    clear hc1 hc2 hpm hh hi hi1
    have hL0 := HL.out.below HB0.out
    by_cases hno : noughtB M = true
    · rw [hno] at cn
      have cn2 := hidd (cn.out A c _ hL0)
      clear hL0 hno
      go_wp2_with fail
      refine cn2.out.mono ?_
      rintro e w3 ⟨rfl, rfl⟩
      go_wp2_with fail
      refine (ck.out _).mono ?_
      rintro e wk ⟨rfl, hbk⟩
      have HBk := hidd (below_step HB0.out hbk)
      clear hbk
      go_wp2_with fail
      go_ret
      exact ⟨rfl, HBk.out⟩
    have hno : noughtB M = false := by cases h : noughtB M <;> simp_all
    rw [hno] at cn
    have HNO := hidd hno
    have cn2 := hidd (cn.out A c _ hL0)
    have HL0 := hidd hL0
    have HSRC := hidd (show 0 < m → ∃ ad, A = some ad ∧ ∀ j u, (rowOf byV M)[j]? = some u → W0.cell? (ad.add j) = some u by
      intro hp
      obtain ⟨ad, e, hB, hcc⟩ := hL0 (by rw [HT.out]; exact hp)
      refine ⟨ad, e, fun j u hu => ?_⟩
      rw [rowOf_by] at hu
      simp only [List.getElem?_map, Option.map_eq_some_iff] at hu
      obtain ⟨x, hx, rfl⟩ := hu
      have := hcc j x hx 0 _ rfl
      simpa using this)
    have HRL := hidd (show (rowOf byV M).length = m * 1 by rw [row_len byV_len M, HT.out])
    have HON := hidd (rowOf_one (f := byV) byV_one M)
    obtain ⟨i0, hi0, hz0, hz1, hz2⟩ := info_parts byteInfo
    clear hL0 hno cn
    go_wp2_with fail
    refine cn2.out.mono ?_
    rintro e w3 ⟨rfl, rfl⟩
    go_wp2_with (at_builtin; refine wpList_append_some (by rfl) (.const (.slice none 0 0)) (.tmp 59) _ (by rfl) W0.heap.size 5 i0 _ 1 1 Try.underlying23 hi0 hz0 hz1 hz2 rfl (by omega) (.slice none 0 0) 0 [] (by rfl) (World.ownsRow_nil _ _ _ 1) A m c (rowOf byV M) (by rfl) HRL.out HSRC.out HON.out (by simp only [maxLen]; omega) (by omega) (Nat.le_refl _) ?_; intro v1 wa hown1 hgrow1 hat1; have hown2 : wa.ownsRow W0.heap.size 5 1 v1 m (rowOf byV M) := (by simpa using hown1); obtain ⟨g, cap, hv1⟩ := own_form hown2 (by omega); subst hv1)
    have hbwa : Below W0.heap.size W0 wa := (Below.refl W0.heap.size W0).grown hgrow1 (Nat.le_refl _) (fun k e => by simp [Value.ownBlock] at e)
    have hO1 : OwnL byV 1 wa W0.heap.size 5 (.slice (some ⟨g, 0, none⟩) m cap) M := by unfold OwnL; rw [HT.out]; exact hown2
    have HO1 := hidd hO1
    have HBA := hidd hbwa
    have hgW := (hO1.lt g rfl).1
    have hgw := (hO1.lt g rfl).2
    obtain ⟨c0, f0⟩ := hO1.byteAt i (by rw [HT.out]; omega)
    obtain ⟨c1, f1⟩ := hO1.byteAt i1 (by rw [HT.out]; omega)
    have hcx : wa.cell? ⟨w.heap.size, 0, none⟩ = some (.int .u16 x0) := (hbwa.cell (p := ⟨w.heap.size, 0, none⟩) hs0).trans HC0.out
    have hne1 : ¬ (w.heap.size = g) := by omega
    have hne2 : ¬ (g = w.heap.size) := by omega
    have hne3 : ¬ (i = i1) := by have := HI1.out; omega
    have hne4 : ¬ (i1 = i) := by have := HI1.out; omega
    have b1 : (i : Int) < (m : Int) := by omega
    have b2 : (i1 : Int) < (m : Int) := by omega
    have r1 : IntKind.u8.wrap (x0 / 256) = x0 / 256 := by rw [IntKind.wrap_u8]; omega
    have r2 : IntKind.u8.wrap x0 = x0 % 256 := by rw [IntKind.wrap_u8]
    clear hown1 hown2 hgrow1 hat1 hO1 hbwa cn2 HSRC HRL HON hi0 hz0 hz1 hz2
    go_region
    have hfacts : ∀ W2, W2 = ((wa.setCell ⟨g, i, none⟩ (.int .u8 (x0 / 256))).setCell ⟨g, i1, none⟩ (.int .u8 (x0 % 256))).drew → OwnL byV 1 W2 W0.heap.size 5 (.slice (some ⟨g, 0, none⟩) m cap) ((M.set i (x0 / 256)).set i1 (x0 % 256)) ∧ Below W0.heap.size W0 W2 := by
      rintro W2 rfl
      exact ⟨OwnL.drew ((HO1.out.set i (by rw [HT.out]; omega) _).set i1 (by rw [List.length_set, HT.out]; omega) _), ((HBA.out.setCell (p := ⟨g, i, none⟩) hgW _).setCell (p := ⟨g, i1, none⟩) hgW _).drew⟩
    generalize hW2 : ((wa.setCell ⟨g, i, none⟩ (.int .u8 (x0 / 256))).setCell ⟨g, i1, none⟩ (.int .u8 (x0 % 256))).drew = W2
    obtain ⟨hO2, hB2⟩ := hfacts W2 hW2.symm
    have hOl : ((M.set i (x0 / 256)).set i1 (x0 % 256)).length = m := by rw [List.length_set, List.length_set, HT.out]
    have hOb : Bytes ((M.set i (x0 / 256)).set i1 (x0 % 256)) := set_bytes (set_bytes HBT.out i ⟨by omega, by omega⟩) i1 ⟨by omega, by omega⟩
    have PS := hidd (fun hn2 => patch_sum (b := M) (i := i) (x := x0 / 256) (y := x0 % 256) HBT.out hiev (by rw [HT.out]; have := HI1.out; omega) ⟨by omega, by omega⟩ ⟨by omega, by omega⟩ HNO.out hn2)
    rw [HI1.out] at PS
    have e0 : 256 * (x0 / 256) + x0 % 256 = x0 := by omega
    rw [e0] at PS
    clear hfacts hW2 c0 f0 c1 f1 hcx r1 r2 HO1 HBA e0
    generalize (M.set i (x0 / 256)).set i1 (x0 % 256) = O at *
    have hcx : W2.cell? ⟨w.heap.size, 0, none⟩ = some (.int .u16 x0) := (hB2.cell (p := ⟨w.heap.size, 0, none⟩) hs0).trans HC0.out
    have HB2 := hidd (show Below w.heap.size w W2 from HB0.out.trans (hB2.mono HB0.out.size))
    have HL2 := hidd (HL.out.below HB2.out)
    have hO2l := hO2.lieAt
    have cn3 := hidd (nought_any (some ⟨g, 0, none⟩) O cap (by omega) W2 hO2l)
    rw [hOl] at cn3
    have HO2 := hidd hO2
    have HCX := hidd hcx
    have HOL := hidd hOl
    have HOB := hidd hOb
    have HB02 := hidd hB2
    clear hO2 hB2 hO2l hcx hOl hOb
    by_cases hno2 : noughtB O = true
    · rw [hno2] at cn3
      clear hno2 PS HO2
      go_wp2_with fail
      refine cn3.out.mono ?_
      rintro e w3 ⟨rfl, rfl⟩
      go_wp2_with fail
      refine (ck.out _).mono ?_
      rintro e wk ⟨rfl, hbk⟩
      have HBk := hidd (below_step HB2.out hbk)
      clear hbk
      go_wp2_with fail
      go_ret
      exact ⟨rfl, HBk.out⟩
    have hno3 : noughtB O = false := by cases h : noughtB O <;> simp_all
    rw [hno3] at cn3
    have HPS := hidd (PS.out hno3)
    obtain ⟨ad, rfl, hab, z0⟩ := HL2.out.byte i (by rw [HT.out]; omega)
    obtain ⟨ad', e1, _, z1⟩ := HL2.out.byte i1 (by rw [HT.out]; omega)
    cases e1
    obtain ⟨u0, u1⟩ := HBT.out _ (av_mem (show i < M.length by rw [HT.out]; omega))
    obtain ⟨u2, u3⟩ := HBT.out _ (av_mem (show i1 < M.length by rw [HT.out]; omega))
    generalize av M i = a0 at *
    generalize av M i1 = a1 at *
    have r3 : IntKind.u16.wrap a0 = a0 := by rw [IntKind.wrap_u16]; omega
    have r4 : IntKind.u16.wrap a1 = a1 := by rw [IntKind.wrap_u16]; omega
    have r5 : IntKind.u16.wrap (a0 * 256) = 256 * a0 := by rw [IntKind.wrap_u16]; omega
    have r6 : bits .or .u16 (256 * a0) a1 = 256 * a0 + a1 := or16 ⟨u0, u1⟩ ⟨u2, u3⟩
    clear PS hno2 hno3
    go_wp2_with fail
    refine cn3.out.mono ?_
    rintro e w3 ⟨rfl, rfl⟩
    go_wp2_with fail
    go_quiet (fail)
    obtain ⟨hs1, hs2⟩ := sumR_w HBT.out
    obtain ⟨W3, hW3⟩ : ∃ W3, W2.drewN nq = W3 := ⟨_, rfl⟩
    have cum0 : Below W2.heap.size W2 W3 := by rw [← hW3]; (repeat' (first | (with_reducible exact Below.refl _ _) | (with_reducible assumption) | (with_reducible apply Below.setCell) | (with_reducible apply Below.alloc) | (with_reducible apply Below.drew) | (with_reducible apply below_drewN) | (with_reducible refine Below.trans ?_ (Below.mono (by assumption) ?_)) | omega | (simp; done) | (simp; omega)))
    rw [hW3]
    have HB3 := hidd (HB2.out.trans (cum0.mono HB2.out.size))
    have hs3 : w.heap.size < W3.heap.size := by have h1 := HB02.out.size; have h2 := cum0.size; omega
    have HLX := hidd (fun W (hW : Below W3.heap.size W3 W) => HL.out.below (HB3.out.trans (hW.mono HB3.out.size)))
    have HO3 := hidd (HO2.out.below cum0)
    have HOX := hidd (fun W (hW : Below W3.heap.size W3 W) => (HO3.out.below hW).lieAt)
    have HCX3 := hidd ((cum0.cell (p := ⟨w.heap.size, 0, none⟩) (show w.heap.size < W2.heap.size by have := HB02.out.size; omega)).trans HCX.out)
    have KX := hidd (fun W (hW : Below W3.heap.size W3 W) => (hW.cell (p := ⟨w.heap.size, 0, none⟩) hs3).trans HCX3.out)
    have cb := hidd (fun b W (hW : Below W3.heap.size W3 W) h1 h2 => sum1_any b (some ad) M c (by rw [HT.out]; omega) HBT.out W h1 h2 ((HLX.out W hW).q (fun k hk => hk)))
    have co := hidd (fun b W (hW : Below W3.heap.size W3 W) h1 h2 => sum1_any b (some ⟨g, 0, none⟩) O cap (by rw [HOL.out]; omega) HOB.out W h1 h2 ((HOX.out W hW).q (fun k hk => hk)))
    have cp := hidd (fun W => Patch_any (sumR M) (256 * a0 + a1) x0 ⟨hs1, hs2⟩ ⟨by omega, by omega⟩ hx0 W)
    rw [HPS.out] at cp
    rw [HT.out] at cb
    rw [HOL.out] at co
    have HBW := hidd (fun W (hW : Below W3.heap.size W3 W) => HB3.out.trans (hW.mono HB3.out.size))
    generalize sumR M = r at *
    generalize sumR O = r2 at *
    clear HLX HOX HL HL0 HL2 HO2 HOB HPS HB0 HC0 HBT HNO cn3 z0 z1 r3 r4 r5 r6 q1 q2 q3 q4 g1 g2 hne1 hne2 hne3 hne4 b1 b2 hno HPM HH HI HI1 u0 u1 u2 u3 him him0 hiev hx1 hx2 hs1 hs2 hW3 cum0 HB2 HB02 HCX HCX3 HO3 hab hgW hgw hs0
    have px := KX.out _ (Below.refl _ _)
    go_wp2_with fail
    go_region_held3 (fun w' => w'.cell? ⟨w.heap.size, 0, none⟩ = some (.int .u16 x0))
      ((first | exact KX.out _ (Below.refl _ _) | exact KX.out _ cumB | exact KX.out _ (by (repeat' (first | (with_reducible exact Below.refl _ _) | (with_reducible assumption) | (with_reducible apply Below.setCell) | (with_reducible apply Below.alloc) | (with_reducible apply Below.drew) | (with_reducible apply below_drewN) | (with_reducible refine Below.trans ?_ (Below.mono (by assumption) ?_)) | omega | (simp; done) | (simp; omega))))))
      ((first
      | (go_at_call 22; refine (cp.out _).mono ?_; rintro e wp ⟨rfl, rfl⟩)
      | (go_at_call 17; refine Calls.mono (cb.out _ _ ?_ ?_ ?_) ?_; (focus ((repeat' (first | (with_reducible exact Below.refl _ _) | (with_reducible assumption) | (with_reducible apply Below.setCell) | (with_reducible apply Below.alloc) | (with_reducible apply Below.drew) | (with_reducible apply below_drewN) | (with_reducible refine Below.trans ?_ (Below.mono (by assumption) ?_)) | omega | (simp; done) | (simp; omega))))); (focus ((simp [go_sem]) <;> rfl)); (focus (first | omega | (simp <;> omega))); rintro e wb ⟨rfl, hbb⟩; have sb := hbb.size; (try simp at sb); have cumB : Below W3.heap.size W3 wb := (by (repeat' (first | (with_reducible exact Below.refl _ _) | (with_reducible assumption) | (with_reducible apply Below.setCell) | (with_reducible apply Below.alloc) | (with_reducible apply Below.drew) | (with_reducible apply below_drewN) | (with_reducible refine Below.trans ?_ (Below.mono (by assumption) ?_)) | omega | (simp; done) | (simp; omega)))); obtain ⟨tb, _⟩ := bcell hbb; have pb := KX.out _ cumB)
      | (go_at_call 17; refine Calls.mono (co.out _ _ ?_ ?_ ?_) ?_; (focus ((repeat' (first | (with_reducible exact Below.refl _ _) | (with_reducible assumption) | (with_reducible apply Below.setCell) | (with_reducible apply Below.alloc) | (with_reducible apply Below.drew) | (with_reducible apply below_drewN) | (with_reducible refine Below.trans ?_ (Below.mono (by assumption) ?_)) | omega | (simp; done) | (simp; omega))))); (focus (first | ((simp [go_sem]) <;> rfl) | (rw [tb]; rotate_left; (focus (first | omega | (simp <;> omega))); (focus ((simp [go_sem]) <;> rfl))))); (focus (first | omega | (simp <;> omega))); rintro e wo ⟨rfl, hbo⟩; have so := hbo.size; (try simp at so); have cumO : Below W3.heap.size W3 wo := (by (repeat' (first | (with_reducible exact Below.refl _ _) | (with_reducible assumption) | (with_reducible apply Below.setCell) | (with_reducible apply Below.alloc) | (with_reducible apply Below.drew) | (with_reducible apply below_drewN) | (with_reducible refine Below.trans ?_ (Below.mono (by assumption) ?_)) | omega | (simp; done) | (simp; omega)))))
      | (go_at_call 11; refine (ck.out _).mono ?_; rintro e wd ⟨rfl, hbd⟩; have cumD : Below W3.heap.size W3 wd := (by (repeat' (first | (with_reducible exact Below.refl _ _) | (with_reducible assumption) | (with_reducible apply Below.setCell) | (with_reducible apply Below.alloc) | (with_reducible apply Below.drew) | (with_reducible apply below_drewN) | (with_reducible refine Below.trans ?_ (Below.mono (by assumption) ?_)) | omega | (simp; done) | (simp; omega)))))))
    all_goals (have hbd2 := HBW.out _ cumD)
    all_goals go_wp2_with fail
    all_goals go_ret
    all_goals exact ⟨rfl, by (repeat' (first | (with_reducible exact Below.refl _ _) | (with_reducible assumption) | (with_reducible apply Below.setCell) | (with_reducible apply Below.alloc) | (with_reducible apply Below.drew) | (with_reducible apply below_drewN) | (with_reducible refine Below.trans ?_ (Below.mono (by assumption) ?_)) | omega | (simp; done) | (simp; omega)))⟩
end Go.Proofs.Ytmpiobpgjlceaaa
