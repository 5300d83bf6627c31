/- Heaps: Put. -/
import Derived.Test.YtgeankdimknmiaaHpG
import Derived.StillTailTactics
import Derived.Maps.AppendAt
import Derived.Deep.AppendLies
import Derived.Deep.RegionLaw
namespace Go.Proofs.Ytgeankdimknmiaa.Hp
set_option linter.unusedVariables false
open Go.RowKit Go.Maps Go.Sort Go.Proofs.Ytgeankdimknmiaa.Tp

theorem set_other {W : World} {b i j : Nat} (v : Value) (h : i ≠ j) : (W.setCell ⟨b, i, none⟩ v).cell? ⟨b, j, none⟩ = W.cell? ⟨b, j, none⟩ := World.cell?_setCell_other _ ⟨b, i, none⟩ ⟨b, j, none⟩ _ (fun e => h (by cases e; rfl))
section
variable {W : World} {h mb : Nat} {v : Value} {L : List It} {T : Int} {D : DataW Unit}
theorem HpAt.setV (H : HpAt W h mb v L T D) {W4 : World} {v' : Value} {L' : List It} (hh : W4.heap[h]? = W.heap[h]?) (hm : W4.heap[mb]? = W.heap[mb]?) (hO : OwnL itV 4 W4 0 71 v' L') (hne : v'.ownBlock ≠ some h) : HpAt (W4.setCell ⟨h, 1, none⟩ v') h mb v' L' T D := by
  have hc := fun o => World.cell?_of_block (w := W) (w' := W4) (a := ⟨h, o, none⟩) hh
  obtain ⟨cs, hcs⟩ := H.blk
  refine ⟨⟨_, heap_setCell_same W4 h 1 cs _ v' (hh.trans hcs)⟩, (set_other _ (by omega)).trans ((hc 0).trans H.c0), World.cell?_setCell_same' _ _ _ (by rw [hc 1, H.c1]; rfl), (set_other _ (by omega)).trans ((hc 2).trans H.c2), (set_other _ (by omega)).trans ((hc 3).trans H.c3), ?_, ?_, hne⟩
  · exact OwnL.to hO (fun g e => Below.heap_setCell _ _ _ _ (fun q => hne (by rw [e, q])))
  · exact H.map.to ((Below.heap_setCell _ _ _ _ (fun q => H.hm q.symm)).trans hm)
theorem HpAt.setT (H : HpAt W h mb v L T D) (T' : Int) : HpAt (W.setCell ⟨h, 3, none⟩ (.int .i64 T')) h mb v L T' D := by
  obtain ⟨cs, hcs⟩ := H.blk
  refine ⟨⟨_, heap_setCell_same W h 3 cs _ _ hcs⟩, (set_other _ (by omega)).trans H.c0, (set_other _ (by omega)).trans H.c1, (set_other _ (by omega)).trans H.c2, World.cell?_setCell_same' _ _ _ (by rw [H.c3]; rfl), ?_, ?_, H.ne⟩
  · exact OwnL.to H.own (fun g e => Below.heap_setCell _ _ _ _ (fun q => H.ne (by rw [e, q])))
  · exact H.map.to (Below.heap_setCell _ _ _ _ (fun q => H.hm q.symm))
end
theorem heap_after {W w4 : World} {o : Obj} {r : Option Nat} {h : Nat} (hG : (W.alloc o).drew.grownBy w4 r) (hl : h < W.heap.size) (hr : some h ≠ r) : w4.heap[h]? = W.heap[h]? :=
  (hG.block h (by show h < (W.alloc o).heap.size; simp; omega) hr).trans (heap_alloc_old W o hl)
theorem ownsRow_drew {w : World} {base : Nat} {e : TypeId} {sz : Nat} {v : Value} {n : Nat} {xs : List Value} (h : w.ownsRow base e sz v n xs) : w.drew.ownsRow base e sz v n xs := h
theorem news_drew {W : World} {id n d t : Int} : ∀ (j : Nat) (u : Value), [Value.int .i64 id, .int .i64 n, .int .i64 d, .int .i64 t][j]? = some u → (W.alloc (.cells #[.int .i64 id, .int .i64 n, .int .i64 d, .int .i64 t] 71)).drew.cell? ((⟨W.heap.size, 0, none⟩ : Addr).add j) = some u :=
  World.news_of_block (cs := #[.int .i64 id, .int .i64 n, .int .i64 d, .int .i64 t]) (t := 71) (fr := (0, 0)) (heap_alloc_new W _)
theorem one_four (a b c d : Int) : ∀ u ∈ [Value.int .i64 a, .int .i64 b, .int .i64 c, .int .i64 d], u.oneCell' = true := fun u hu => by
  simp at hu
  rcases hu with rfl | rfl | rfl | rfl <;> rfl
theorem itInfo : (Try.prog.info? 71).map (fun i => (i.zero, i.size, i.bytes)) = some (some (.agg #[.int .i64 0, .int .i64 0, .int .i64 0, .int .i64 0]), 4, 32) := by kernel_rfl
theorem itParts : ∃ i, Try.prog.info? 71 = some i ∧ i.zero = some (.agg #[.int .i64 0, .int .i64 0, .int .i64 0, .int .i64 0]) ∧ i.size = 4 ∧ i.bytes = 32 := by
  have h := itInfo
  cases e : Try.prog.info? 71 with
  | none => rw [e] at h; cases h
  | some i =>
    rw [e] at h
    simp at h
    exact ⟨i, rfl, h.1, h.2.1, h.2.2⟩
theorem mayB_iff (id n d : Int) : mayB id n d = true ↔ 0 ≤ id ∧ id ≤ 4611686018427387904 ∧ rightB n d = true := by unfold mayB; simp
set_option maxHeartbeats 2000000 in
theorem put_bad {h mb : Nat} (id n d : Int) (h0 : -9223372036854775808 ≤ n) (h1 : n ≤ 9223372036854775807) (h2 : -9223372036854775808 ≤ d) (h3 : d ≤ 9223372036854775807) (hb : mayB id n d = false) (w : World) (hc : w.cell? ⟨h, 0, none⟩ = some (.map (some mb))) :
    Calls Try.prog 22 #[.pointer (some ⟨h, 0, none⟩), .int .i64 id, .agg #[.int .i64 n, .int .i64 d]] w fun e w' => e = .returned (.int .i64 2) ∧ Below w.heap.size w w' := by
  have hl := block_lt_of_cell hc
  have c := hidd (fun W a b => check_at h mb id n d h0 h1 h2 h3 W a b)
  rw [hb] at c
  go_enter Try.func22, Try.ntmps22
  go_wp2_with fail
  refine (c.out _ (by simp [go_sem, hc, hl]) (by simp; omega)).mono ?_
  rintro e w1 ⟨rfl, hb1⟩
  go_wp2_with fail
  go_ret
  exact ⟨rfl, by (repeat' (first | (with_reducible exact Below.refl _ _) | (with_reducible assumption) | (with_reducible apply Below.setCell) | (with_reducible apply Below.alloc) | (with_reducible apply Below.drew) | (with_reducible apply below_drewN) | (with_reducible refine Below.trans ?_ (Below.mono (by assumption) ?_)) | omega | (simp; done) | (simp; omega)))⟩
theorem put_no (id n d : Int) (w : World) : Calls Try.prog 22 #[.pointer none, .int .i64 id, .agg #[.int .i64 n, .int .i64 d]] w fun e w' => e = .returned (.int .i64 1) ∧ Below w.heap.size w w' := by
  have c := hidd (fun W => check_no id n d W)
  go_enter Try.func22, Try.ntmps22
  go_wp2_with fail
  refine (c.out _).mono ?_
  rintro e w1 ⟨rfl, hb1⟩
  go_wp2_with fail
  go_ret
  exact ⟨rfl, by (repeat' (first | (with_reducible exact Below.refl _ _) | (with_reducible assumption) | (with_reducible apply Below.setCell) | (with_reducible apply Below.alloc) | (with_reducible apply Below.drew) | (with_reducible apply below_drewN) | (with_reducible refine Below.trans ?_ (Below.mono (by assumption) ?_)) | omega | (simp; done) | (simp; omega)))⟩
set_option maxHeartbeats 4000000 in
theorem put_twice {h mb : Nat} {v : Value} {L : List It} {T : Int} {D : DataW Unit} (id n d : Int) (h0 : -9223372036854775808 ≤ n) (h1 : n ≤ 9223372036854775807) (h2 : -9223372036854775808 ≤ d) (h3 : d ≤ 9223372036854775807) (hb : mayB id n d = true) (hi : In D id = true) (w : World) (H : HpAt w h mb v L T D) :
    Calls Try.prog 22 #[.pointer (some ⟨h, 0, none⟩), .int .i64 id, .agg #[.int .i64 n, .int .i64 d]] w fun e w' => e = .returned (.int .i64 210) ∧ Below w.heap.size w w' := by
  have hl := H.lt
  have hc := H.c0
  have c := hidd (fun W a b => check_at h mb id n d h0 h1 h2 h3 W a b)
  rw [hb] at c
  have hr := (mayB_iff _ _ _).1 hb
  have cf := hidd (fun W hm => find_any mb D id (by omega) (by omega) W hm)
  rw [hi] at cf
  have HH := hidd H
  generalize look D id = z at *
  clear H hb hi hr
  go_enter Try.func22, Try.ntmps22
  go_wp2_with fail
  refine (c.out _ (by simp [go_sem, hc, hl]) (by simp; omega)).mono ?_
  rintro e w1 ⟨rfl, hb1⟩
  have HB1 := hidd (below_step (below_new (Below.refl w.heap.size w) _) hb1)
  have hc1 := (HB1.out.cell (p := ⟨h, 0, none⟩) hl).trans hc
  clear hb1
  go_wp2_with fail
  refine (cf.out _ (HH.out.below HB1.out).map).mono ?_
  rintro e w2 ⟨rfl, rfl⟩
  go_wp2_with fail
  go_ret
  exact ⟨rfl, HB1.out⟩
set_option maxHeartbeats 8000000 in
set_option maxRecDepth 100000 in
theorem put_ok {h mb : Nat} {v : Value} {L : List It} {T : Int} {D : DataW Unit} (id n d : Int) (h0 : -9223372036854775808 ≤ n) (h1 : n ≤ 9223372036854775807) (h2 : -9223372036854775808 ≤ d) (h3 : d ≤ 9223372036854775807) (hb : mayB id n d = true) (hi : In D id = false) (w : World) (H : Hp w h mb v L T D)
    (hL : L.length < 100000) (hT0 : 0 ≤ T) (hT1 : T < 1000000) :
    Calls Try.prog 22 #[.pointer (some ⟨h, 0, none⟩), .int .i64 id, .agg #[.int .i64 n, .int .i64 d]] w fun e w' => e = .returned (.int .i64 0) ∧ ∃ v' L' D', L'.Perm (L ++ [(id, n, d, T + 1)]) ∧ Hp w' h mb v' L' (T + 1) D' ∧ Sav (Blk h mb v) w w' ∧ ∀ k, k < w.heap.size → Blk h mb v' k → Blk h mb v k := by
  obtain ⟨i0, hin, hz0, hz1, hz2⟩ := itParts
  have hl := H.at_.lt
  have hml := H.at_.mlt
  have hhm := H.at_.hm
  have hc := H.at_.c0
  have hc1 := H.at_.c1
  have hc3 := H.at_.c3
  obtain ⟨A, k, hv, hlk, hkm, _⟩ := OwnL.lie H.at_.own itV_len
  have c := hidd (fun W a b => check_at h mb id n d h0 h1 h2 h3 W a b)
  rw [hb] at c
  have hr := (mayB_iff _ _ _).1 hb
  have cf := hidd (fun W hm => find_any mb D id (by omega) (by omega) W hm)
  rw [hi] at cf
  have HH := hidd H
  have hIN := hidd hi
  have OKX : Hid (OkI (id, n, d, T + 1)) := hidd ⟨h0, h1, h2, h3, hr.2.2, hr.1, hr.2.1, by show 0 ≤ T + 1; omega, by show T + 1 ≤ 1000000; omega⟩
  have hfz := hidd (fun o => H.at_.fz o)
  have zl : ¬ (100000 : Int) ≤ (L.length : Int) := by omega
  have zl2 : decide ((100000 : Int) ≤ (L.length : Int)) = false := decide_eq_false zl
  have HL := hidd hL
  clear hL zl
  generalize look D id = z at *
  have cS := hidd (fun (v' : Value) (L' : List It) (W : World) (m : Nat) (hm : m < L'.length) (H' : HpN W h mb v' L' (T + 1) D m) (ho : Off L' m) => settle_any m hm W H' ho)
  clear H hb hi hr
  obtain ⟨T1, hT⟩ : ∃ T1, T + 1 = T1 := ⟨_, rfl⟩
  rw [hT] at OKX cS ⊢
  have hw1 : IntKind.i64.wrap (T + 1) = T1 := by rw [IntKind.wrap_i64]; omega
  clear hT
  rw [hv] at hc1
  go_enter Try.func22, Try.ntmps22
  go_wp2_with fail
  refine (c.out _ (by simp [go_sem, hc, hl]) (by simp; omega)).mono ?_
  rintro e w1 ⟨rfl, hb1⟩
  have HB1 := hidd (below_step (below_new (Below.refl w.heap.size w) _) hb1)
  have g0 := (HB1.out.cell (p := ⟨h, 0, none⟩) hl).trans hc
  have g1 := (HB1.out.cell (p := ⟨h, 1, none⟩) hl).trans hc1
  have g3 := (HB1.out.cell (p := ⟨h, 3, none⟩) hl).trans hc3
  have gf : ∀ o, w1.frozen? ⟨h, o, none⟩ = false := fun o => (HB1.out.frozen (p := ⟨h, o, none⟩) hl).trans (hfz.out o)
  have k0 := (hb1.cell (p := ⟨w.heap.size, 0, none⟩) (by simp)).trans (show _ = some (Value.int .i64 n) by simp [go_sem])
  have k1 := (hb1.cell (p := ⟨w.heap.size, 1, none⟩) (by simp)).trans (show _ = some (Value.int .i64 d) by simp [go_sem])
  have hs1 : w.heap.size < w1.heap.size := by have := hb1.size; simp at this; omega
  clear hb1
  go_wp2_with fail
  refine (cf.out _ (HH.out.below HB1.out).at_.map).mono ?_
  rintro e w2 ⟨rfl, rfl⟩
  go_wp2_with fail
  obtain ⟨W3, hW3⟩ : ∃ W3, w1.setCell ⟨h, 3, none⟩ (.int .i64 T1) = W3 := ⟨_, rfl⟩
  rw [hW3]
  have H3 := hidd (hW3 ▸ (HH.out.below HB1.out).at_.setT T1)
  have p1 := H3.out.c1
  rw [hv] at p1
  have p3 := H3.out.c3
  have q0 : W3.cell? ⟨w.heap.size, 0, none⟩ = some (.int .i64 n) := by rw [← hW3, World.cell?_setCell_other _ _ _ _ (fun e => by have := congrArg Addr.block e; simp at this; omega)]; exact k0
  have q1 : W3.cell? ⟨w.heap.size, 1, none⟩ = some (.int .i64 d) := by rw [← hW3, World.cell?_setCell_other _ _ _ _ (fun e => by have := congrArg Addr.block e; simp at this; omega)]; exact k1
  have hsz3 : w.heap.size < W3.heap.size := by rw [← hW3]; simp [World.setCell]; omega
  have SV3 : Hid (Sav (Blk h mb v) w W3) := hidd (hW3 ▸ (Sav.of HB1.out).tr (Sav.setCell (p := ⟨h, 3, none⟩) (.inl rfl) w1 _))
  have h3l := H3.out.lt
  clear hW3 g0 g1 g3 gf k0 k1 HB1 hc hc1 hc3
  have p3f := H3.out.fz 1
  have hne := H3.out.ne
  have hvm := H3.out.vm
  have hbh : some h ≠ (Value.slice A L.length k).ownBlock := fun e => hne (by rw [hv, ← e])
  have hbm : some mb ≠ (Value.slice A L.length k).ownBlock := fun e => hvm (by rw [hv, ← e])
  have hO3 : W3.ownsRow 0 71 4 (.slice A L.length k) L.length (rowOf itV L) := by have := H3.out.own; rw [hv] at this; exact this
  have HO3 := hidd hO3
  clear hO3 hne hvm
  go_region_law (first
    | (refine step_append_lies _ (by rfl) (.tmp 44) (.tmp 52) _ (by rfl) 0 71 i0 _ 4 32 Try.underlying85 hin hz0 hz1 hz2 rfl (by omega) (.slice A L.length k) L.length (rowOf itV L) (by rfl) (ownsRow_drew (World.ownsRow.alloc HO3.out _)) ⟨_, 0, none⟩ 1 1 [.int .i64 id, .int .i64 n, .int .i64 d, .int .i64 T1] (by rfl) (by rfl) news_drew (one_four _ _ _ _) (by omega) (by have := HL.out; simp only [maxLen]; omega) (by have := HL.out; omega) (by omega) _ rfl ?_
       intro g4 k4 w4 hO4 hG4 hat4 hlt4
       have hh4 := heap_after hG4 h3l hbh
       have hm4 := heap_after hG4 (by omega) hbm
       have e41 : w4.cell? ⟨h, 1, none⟩ = some (.slice A L.length k) := (World.cell?_of_block (a := ⟨h, 1, none⟩) hh4).trans p1
       have e4f : w4.frozen? ⟨h, 1, none⟩ = false := (World.frozen?_of_block (a := ⟨h, 1, none⟩) hh4).trans p3f))
  all_goals
    have own5 : OwnL itV 4 w4 0 71 (.slice (some ⟨g4, 0, none⟩) (L.length + 1) k4) (L ++ [(id, n, d, T1)]) := OwnL.snoc hO4 rfl rfl
    have hne5 : (Value.slice (some ⟨g4, 0, none⟩) (L.length + 1) k4).ownBlock ≠ some h := fun e => by
      have e' : g4 = h := by injection e
      rcases hat4 with q | q
      · rw [e'] at q; exact hbh q.symm
      · simp at q; omega
    have H5 := HpAt.setV H3.out hh4 hm4 own5 hne5
    have SV5 : Sav (Blk h mb v) w (w4.setCell ⟨h, 1, none⟩ (.slice (some ⟨g4, 0, none⟩) (L.length + 1) k4)) := by
      have a1 : Sav (Blk h mb v) W3 w4 := by
        have b1 : Sav (Blk h mb v) W3 (W3.alloc (.cells #[.int .i64 id, .int .i64 n, .int .i64 d, .int .i64 T1] 71)).drew := Sav.of ((below_new (Below.refl _ _) _).drew)
        exact b1.tr (Sav.grown hG4 (fun j hj => .inr (.inr (by rw [hv]; exact hj))))
      exact (SV3.out.tr a1).tr (Sav.setCell (p := ⟨h, 1, none⟩) (.inl rfl) w4 _)
    have NB : ∀ j, j < w.heap.size → Blk h mb (.slice (some ⟨g4, 0, none⟩) (L.length + 1) k4) j → Blk h mb v j := fun j hj q => by
      rcases q with q | q | q
      · exact .inl q
      · exact .inr (.inl q)
      · have e' : g4 = j := by injection q
        rcases hat4 with r | r
        · exact .inr (.inr (by rw [hv, r, e']))
        · simp at r; omega
    obtain ⟨W5, hW5⟩ : ∃ W5, w4.setCell ⟨h, 1, none⟩ (.slice (some ⟨g4, 0, none⟩) (L.length + 1) k4) = W5 := ⟨_, rfl⟩
    rw [hW5] at H5 SV5 ⊢
    have N5 : HpN W5 h mb (.slice (some ⟨g4, 0, none⟩) (L.length + 1) k4) (L ++ [(id, n, d, T1)]) T1 D L.length := by
      refine ⟨H5, fun y hy => ?_, HH.out.ids.snoc HH.out.pl _ hIN.out, HH.out.pl.snoc _ hIN.out, by have := HH.out.sz; simp; omega, .inl (by have := HH.out.sz; simp; omega), by have := HL.out; simp; omega⟩
      rcases List.mem_append.1 hy with q | q
      · exact HH.out.ok y q
      · rw [List.mem_singleton] at q; subst q; exact OKX.out
    have cS5 := hidd (cS.out _ (L ++ [(id, n, d, T1)]) W5 L.length (by simp) N5 (HH.out.heap.snoc _))
    have c51 := H5.c1
    have hSV5 := hidd SV5
    have hNB := hidd NB
    have wz : IntKind.i64.wrap (L.length : Int) = (L.length : Int) := by have := HL.out; rw [IntKind.wrap_i64]; omega
    clear own5 hne5 H5 SV5 NB N5 hW5 hO4 hG4 hat4 hlt4 hh4 hm4 e41 e4f p1 p3 q0 q1 cS cf c
    go_wp2_with fail
    refine cS5.out.mono ?_
    rintro e w6 ⟨rfl, ⟨L', D', hp, hH⟩, hS6⟩
    have HF := hidd hH
    have HS6 := hidd (hSV5.out.trans hS6 (fun j hj q => hNB.out j hj (by rcases q with q | q; exact .inr (.inl q); exact .inr (.inr q))))
    have HP := hidd hp
    clear hH hS6 hp
    go_wp2_with fail
    go_ret
    exact ⟨rfl, _, L', D', HP.out, HF.out, HS6.out, hNB.out⟩
end Go.Proofs.Ytgeankdimknmiaa.Hp
