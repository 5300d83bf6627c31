/- Routes: the ways to one node, laid. -/
import Derived.Test.YtalhbjmhipiiiaaGreatRtH
namespace Go.Proofs.YtalhbjmhipiiiaaGreat.Tp
set_option linter.unusedVariables false
open Go.RowKit Go.Maps

/-- the ways to node t that are laid: those of less than f links, and of f links those from nodes ahead of i. -/
def laid (n : Int) (L : List Lk) (t : Nat) (lks : LksT) (f i : Nat) : LksT := fun x u =>
  if u = t ∧ x < n.toNat ∧ (dist n L (t : Int) (x : Int) < f ∨ (dist n L (t : Int) (x : Int) = f ∧ x < i)) then wayL n L (t : Int) (dist n L (t : Int) (x : Int)) (x : Int) else lks x u
theorem laid_start {n : Int} {L : List Lk} {t : Nat} {lks : LksT} (h0 : ∀ x, lks x t = []) : ∀ x u, x < 16 → u < 16 → laid n L t lks 1 0 x u = lks x u := fun x u _ _ => by
  unfold laid
  split
  · rename_i h
    have hd : dist n L (t : Int) (x : Int) = 0 := by omega
    rw [hd, h.1, h0]
    rfl
  · rfl
theorem laid_next {n : Int} {L : List Lk} {t : Nat} {lks : LksT} {f : Nat} : ∀ x u, x < 16 → u < 16 → laid n L t lks (f + 1) 0 x u = laid n L t lks f n.toNat x u := fun x u _ _ => by
  unfold laid
  by_cases h : u = t ∧ x < n.toNat ∧ (dist n L (t : Int) (x : Int) < f + 1 ∨ (dist n L (t : Int) (x : Int) = f + 1 ∧ x < 0))
  · rw [if_pos h, if_pos ⟨h.1, h.2.1, by omega⟩]
  · rw [if_neg h, if_neg (fun q => h ⟨q.1, q.2.1, by omega⟩)]
theorem laid_skip {n : Int} {L : List Lk} {t : Nat} {lks : LksT} {f i : Nat} (hd : dist n L (t : Int) (i : Int) ≠ f) : ∀ x u, x < 16 → u < 16 → laid n L t lks f (i + 1) x u = laid n L t lks f i x u := fun x u _ _ => by
  unfold laid
  by_cases h : u = t ∧ x < n.toNat ∧ (dist n L (t : Int) (x : Int) < f ∨ (dist n L (t : Int) (x : Int) = f ∧ x < i))
  · rw [if_pos h, if_pos ⟨h.1, h.2.1, by omega⟩]
  · rw [if_neg h, if_neg (fun q => h ⟨q.1, q.2.1, by
      rcases q.2.2 with e | ⟨e1, e2⟩
      · exact .inl e
      · by_cases e3 : x = i
        · subst e3; exact absurd e1 hd
        · exact .inr ⟨e1, by omega⟩⟩)]
theorem laid_put {n : Int} {L : List Lk} {t : Nat} {lks : LksT} {f i : Nat} (hi : i < n.toNat) (hd : dist n L (t : Int) (i : Int) = f) : ∀ x u, x < 16 → u < 16 → laid n L t lks f (i + 1) x u = setL (laid n L t lks f i) i t (wayL n L (t : Int) f (i : Int)) x u := fun x u _ _ => by
  simp only [setL]
  by_cases e : x = i ∧ u = t
  · obtain ⟨rfl, rfl⟩ := e
    rw [if_pos ⟨rfl, rfl⟩]
    unfold laid
    rw [if_pos ⟨rfl, hi, .inr ⟨hd, by omega⟩⟩, hd]
  · rw [if_neg e]
    unfold laid
    by_cases h : u = t ∧ x < n.toNat ∧ (dist n L (t : Int) (x : Int) < f ∨ (dist n L (t : Int) (x : Int) = f ∧ x < i))
    · rw [if_pos h, if_pos ⟨h.1, h.2.1, by omega⟩]
    · rw [if_neg h, if_neg (fun q => h ⟨q.1, q.2.1, by
        rcases q.2.2 with e1 | ⟨e1, e2⟩
        · exact .inl e1
        · exact .inr ⟨e1, by
            by_cases e3 : x = i
            · exact absurd ⟨e3, q.1⟩ e
            · omega⟩⟩)]
set_option maxRecDepth 100000 in
set_option maxHeartbeats 8000000 in
theorem lay_any (bw m : Nat) (n : Int) (L : List Lk) (hV : Valid n L) (far : FarT) (lks : LksT) (t : Nat) (ht : (t : Int) < n) (hfar : ∀ x : Nat, (x : Int) < n → far x t = dist n L (t : Int) (x : Int)) (h0 : ∀ x, lks x t = []) (w : World) (h : WaysAt w w.heap.size bw m n L far lks) :
    Calls Tryz.prog 71 #[.pointer (some ⟨bw, 0, none⟩), .int .i64 (t : Int)] w fun e w' => e = .returned (.tuple #[]) ∧ WaysAt w' w'.heap.size bw m n L far (laid n L t lks n.toNat 0) ∧ OnlyB bw w w' := by
  have hn1 := hV.lo
  have hn2 := hV.hi
  have ht16 : t < 16 := by omega
  have CN := hidd (fun W (h : MapAt W m n L) => Nodes_yes m n hn1 L W h)
  have CF := hidd (fun (x : Nat) (hx : (x : Int) < n) W lks' (h : WaysAt W W.heap.size bw m n L far lks') => firstW_any bw m n L hV far lks' x t hx ht16 W h)
  have A0 := hidd (h.lks_congr (lks' := laid n L t lks 1 0) (laid_start h0))
  have HV := hidd hV
  have HFAR := hidd hfar
  clear h hV hfar
  go_enter Tryz.func71, Tryz.ntmps71
  go_wp2_with fail
  go_loopg [4] 19 (fun g s4 wr => ∃ f : Nat, 1 ≤ f ∧ (f : Int) ≤ n ∧ f + g = 20 ∧ s4 = .int .i64 (f : Int) ∧ WaysAt wr wr.heap.size bw m n L far (laid n L t lks f 0) ∧ OnlyB bw w wr)
  case atStart => exact ⟨1, by omega, by omega, by omega, rfl, A0.out, OnlyB.of (Below.refl _ _)⟩
  case round =>
    obtain ⟨f, hf1, hf2, hg, rfl, hA, hO⟩ := hrel
    have c2 := hA.map
    have HG := hidd hg
    have HA := hidd hA
    have HO := hidd hO
    clear hg hA hO
    by_cases hin : (f : Int) < n
    · go_wp2_with fail
      refine (CN.out _ HA.out.mapAt).mono ?_
      rintro e w' ⟨rfl, rfl⟩
      go_wp2_with fail
      refine (CN.out _ HA.out.mapAt).mono ?_
      rintro e w' ⟨rfl, rfl⟩
      go_wp2_with fail
      clear c2
      generalize gk = g1 at *
      generalize wr = W1 at *
      go_loopg [21] 20 (fun g s21 wr => ∃ i : Nat, (i : Int) ≤ n ∧ i + g = 20 ∧ s21 = .int .i64 (i : Int) ∧ WaysAt wr wr.heap.size bw m n L far (laid n L t lks f i) ∧ OnlyB bw w wr)
      case atStart => exact ⟨0, by omega, by omega, rfl, HA.out, HO.out⟩
      case round =>
        clear HA HO
        obtain ⟨i, hi, hg, rfl, hA, hO⟩ := hrel
        have HGI := hidd hg
        have HA := hidd hA
        have HO := hidd hO
        clear hg hA hO
        by_cases hin3 : (i : Int) < n
        · have hi0 : (0 : Int) ≤ (i : Int) := by omega
          have hi16 : (i : Int) < 16 := by omega
          have ht0 : (0 : Int) ≤ (t : Int) := by omega
          have ht16' : (t : Int) < 16 := by omega
          have hfc := HA.out.far i t (by omega) (by omega)
          rw [HFAR.out i hin3] at hfc
          have hdl := dist_le HV.out (i : Int) (t : Int)
          obtain ⟨d, hd⟩ : ∃ d, dist n L (t : Int) (i : Int) = d := ⟨_, rfl⟩
          rw [hd] at hfc hdl
          have HD := hidd hd
          by_cases hdf : d = f
          · have hdb : ((d : Int) == (f : Int)) = true := by rw [hdf]; exact beq_self_eq_true _
            have hfe : f - 1 + 1 = f := by omega
            have hdd : dist n L (t : Int) (i : Int) = f - 1 + 1 := by rw [hfe, hd, hdf]
            have hge : gOf L (fun y => far y t) = (fun z => dist n L (t : Int) (toF L z)) := by
              funext z
              have hz := toF_in HV.out z
              show far (toF L z).toNat t = dist n L (t : Int) (toF L z)
              rw [HFAR.out _ (by omega), Int.toNat_of_nonneg hz.1]
            have hbst := bst_first HV.out hi0 hin3 (t := (t : Int)) (k := f - 1) (by omega) hdd
            obtain ⟨j, hj, hfj, hfr, hdj⟩ := first_is HV.out hi0 hin3 (t := (t : Int)) (k := f - 1) (by omega) hdd
            rw [← hge, hfj] at hbst
            have hyy := (HV.out.ends hj).2
            obtain ⟨y, hy⟩ : ∃ y : Nat, tw (lkAt L j) = y := ⟨(tw (lkAt L j)).toNat, by omega⟩
            rw [hy] at hyy hdj
            have hway : wayL n L (t : Int) (f - 1 + 1) (i : Int) = (j : Int) :: wayL n L (t : Int) (f - 1) (y : Int) := by
              rw [wayL, hfj, toF_nat hj, hy]
            rw [hfe] at hway
            have cf := CF.out i hin3 wr _ HA.out
            rw [hbst] at cf
            simp only [oN, oT] at cf
            rw [toF_nat hj, hy] at cf
            have hyi : y ≠ i := fun e => by rw [e, hdd] at hdj; omega
            obtain ⟨lst, hlst⟩ : ∃ lst, wayL n L (t : Int) (f - 1) (y : Int) = lst := ⟨_, rfl⟩
            have hlen : lst.length = f - 1 := by rw [← hlst, wayL_len]
            have hlaid : laid n L t lks f i y t = lst := by
              unfold laid
              rw [if_pos ⟨rfl, by omega, .inl (by omega)⟩, hdj, hlst]
            rw [hlst] at hway
            have CFR := hidd cf
            have HWAY := hidd hway
            have HLAID := hidd hlaid
            have hy0 : (0 : Int) ≤ (y : Int) := by omega
            have hy16 : (y : Int) < 16 := by omega
            clear cf hbst hge hway hlst hlaid hdd hdj hfj hfr hd hdl hfe
            go_wp2_with fail
            refine CFR.out.mono ?_
            rintro e w2 ⟨rfl, hb2⟩
            obtain ⟨W5, hW5⟩ : ∃ W5, w2.alloc (.cells #[.int .i64 (j : Int), .int .i64 (y : Int)] 148) = W5 := ⟨_, rfl⟩
            have hb5 : Below wr.heap.size wr W5 := by rw [← hW5]; exact below_new hb2 _
            have A5 := hidd (HA.out.below hb5)
            have s0 : W5.cell? ⟨w2.heap.size, 0, none⟩ = some (.int .i64 (j : Int)) := by rw [← hW5]; simp [go_sem]
            have s1 : W5.cell? ⟨w2.heap.size, 1, none⟩ = some (.int .i64 (y : Int)) := by rw [← hW5]; simp [go_sem]
            have s2 : w2.heap.size < W5.heap.size := by rw [← hW5]; simp
            obtain ⟨A, c, hlc, hc1, hc2, hlie, _⟩ := A5.out.links y t (by omega) ht16
            rw [HLAID.out] at hlc hc1 hlie
            obtain ⟨_, _, hstc, _⟩ := A5.out.links i t (by omega) ht16
            have hstf := A5.out.frozen (257 + i * 16 + t)
            have hbl := A5.out.lt
            have HB5 := hidd hb5
            have HW5 := hidd hW5
            obtain ⟨NL, hNL⟩ : ∃ k, lst.length = k := ⟨_, rfl⟩
            have CG := hidd (fun Y (hb : Below W5.heap.size W5 Y) => grown_any (j : Int) A lst c (by omega) hc1 Y (hlie.below hb))
            rw [hNL] at CG hlc
            have KK := hidd (fun Y (hb : Below W5.heap.size W5 Y) => (show Y.cell? ⟨w2.heap.size, 0, none⟩ = some (.int .i64 (j : Int)) ∧ Y.cell? ⟨w2.heap.size, 1, none⟩ = some (.int .i64 (y : Int)) ∧ Y.cell? ⟨bw, 257 + y * 16 + t, none⟩ = some (.slice A NL c) from ⟨(hb.cell (p := ⟨w2.heap.size, 0, none⟩) s2).trans s0, (hb.cell (p := ⟨w2.heap.size, 1, none⟩) s2).trans s1, (hb.cell (p := ⟨bw, 257 + y * 16 + t, none⟩) hbl).trans hlc⟩))
            obtain ⟨U, hU⟩ : ∃ U, W5.cell? ⟨bw, 257 + i * 16 + t, none⟩ = some U := ⟨_, hstc⟩
            have STC := hidd (fun Y (hb : Below W5.heap.size W5 Y) => (show Y.cell? ⟨bw, 257 + i * 16 + t, none⟩ = some U ∧ Y.frozen? ⟨bw, 257 + i * 16 + t, none⟩ = false from ⟨(hb.cell (p := ⟨bw, 257 + i * 16 + t, none⟩) hbl).trans hU, (hb.frozen (p := ⟨bw, 257 + i * 16 + t, none⟩) hbl).trans hstf⟩))
            have hne : bw ≠ w2.heap.size := by have := HA.out.lt; have := hb2.size; omega
            have KS := hidd (fun Y (hb : Below W5.heap.size W5 Y) v => (show (Y.setCell ⟨bw, 257 + i * 16 + t, none⟩ v).cell? ⟨w2.heap.size, 0, none⟩ = some (.int .i64 (j : Int)) ∧ (Y.setCell ⟨bw, 257 + i * 16 + t, none⟩ v).cell? ⟨w2.heap.size, 1, none⟩ = some (.int .i64 (y : Int)) ∧ (Y.setCell ⟨bw, 257 + i * 16 + t, none⟩ v).cell? ⟨bw, 257 + y * 16 + t, none⟩ = some (.slice A NL c) from ⟨(World.cell?_setCell_other _ _ _ _ (fun e => hne (congrArg Addr.block e))).trans (KK.out Y hb).1, (World.cell?_setCell_other _ _ _ _ (fun e => hne (congrArg Addr.block e))).trans (KK.out Y hb).2.1, (set_other _ (by omega)).trans (KK.out Y hb).2.2⟩))
            have HDF := hidd hdf
            clear hb2 hb5 hW5 hlie hc1 hc2 s0 s1 hfc hdb hdf hU hstf hstc
            go_wp2_with fail
            rw [HW5.out]
            have cum0 := Below.refl W5.heap.size W5
            go_region_held3 (fun Y => Y.cell? ⟨w2.heap.size, 0, none⟩ = some (.int .i64 (j : Int)) ∧ Y.cell? ⟨w2.heap.size, 1, none⟩ = some (.int .i64 (y : Int)) ∧ Y.cell? ⟨bw, 257 + y * 16 + t, none⟩ = some (.slice A NL c))
              ((first | exact KK.out _ cum1 | exact KK.out _ (Below.drew cum0) | exact KK.out _ cum0 | exact KS.out _ cum1 _ | go_keep))
              ((go_at_call 86; refine (CG.out _ (by first | exact Below.drew cum0 | exact cum0)).mono ?_; rintro E1 v1 ⟨B, c', rfl, hg1, hg2, hg3, hg4, l1⟩; have cum1 : Below W5.heap.size W5 v1 := (by first | exact below_step (Below.drew cum0) l1 | exact below_step cum0 l1); obtain ⟨sto1, sto2⟩ := STC.out v1 cum1))
            all_goals go_wp2_with fail
            go_roundg (gk - 1)
            case measure => have := HGI.out; omega
            case rel =>
              have hll : ((j : Int) :: lst).length = NL + 1 := by rw [List.length_cons, hNL]
              have hsz := Below.size cum1
              have AS := (A5.out.below cum1).setLink i t (by omega) ht16 (some B) ((j : Int) :: lst) c' (by rw [hll]; exact hNL ▸ hg1) hg2 hg3 (fun ad e _ => by cases e; have h4 : W5.heap.size ≤ B.block := hg4; omega)
              rw [hll] at AS
              refine ⟨i + 1, by omega, by have := HGI.out; omega, by go_num, ?_, ((HO.out.trans (OnlyB.of HB5.out)).trans (OnlyB.of cum1)).trans (OnlyB.set _ _)⟩
              refine (AS.lks_congr (fun x u hx hu => ?_)).more (by simp [World.setCell]) (Nat.le_refl _)
              rw [laid_put (by omega) (by rw [HD.out]; exact HDF.out) x u hx hu, HWAY.out]
          · have hdb : ((d : Int) == (f : Int)) = false := beq_eq_false_iff_ne.2 (by omega)
            clear hd
            go_wp2_with fail
            go_roundg (gk - 1)
            case measure => have := HGI.out; omega
            case rel => exact ⟨i + 1, by omega, by have := HGI.out; omega, by go_num, HA.out.lks_congr (laid_skip (by rw [HD.out]; exact hdf)), HO.out⟩
        · have hin4 : i = n.toNat := by omega
          subst hin4
          go_wp2_with fail
          go_roundg (g1 - 1)
          case measure => have := HG.out; omega
          case rel => exact ⟨f + 1, by omega, by omega, by have := HG.out; omega, by go_num, HA.out.lks_congr laid_next, HO.out⟩
    · have hfn : f = n.toNat := by omega
      subst hfn
      go_wp2_with fail
      refine (CN.out _ HA.out.mapAt).mono ?_
      rintro e w' ⟨rfl, rfl⟩
      go_wp2_with fail
      go_end0
      exact ⟨rfl, HA.out, HO.out⟩
end Go.Proofs.YtalhbjmhipiiiaaGreat.Tp
