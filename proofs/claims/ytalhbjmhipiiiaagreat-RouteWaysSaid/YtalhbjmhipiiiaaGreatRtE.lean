/- Routes: how far all nodes are from one: round by round. -/
import Derived.Test.YtalhbjmhipiiiaaGreatRtD
namespace Go.Proofs.YtalhbjmhipiiiaaGreat.Tp
set_option linter.unusedVariables false
open Go.RowKit Go.Maps
attribute [local go_sem] Oper.semAt_some

/-- what stands while a column is worked out. -/
structure MeasAt (w wr : World) (bw m : Nat) (n : Int) (L : List Lk) (lks : LksT) (t : Nat) (F : FarT) : Prop where
  st : WaysAt wr w.heap.size bw m n L F lks
  on : OnlyB bw w wr
  b0 : wr.cell? ⟨w.heap.size, 0, none⟩ = some (.pointer (some ⟨bw, 0, none⟩))
  b1 : wr.cell? ⟨w.heap.size + 1, 0, none⟩ = some (.int .i64 (t : Int))
  sz : w.heap.size + 1 < wr.heap.size
section
variable {w wr wr' : World} {bw m : Nat} {n : Int} {L : List Lk} {lks : LksT} {t : Nat} {F : FarT}
theorem MeasAt.below (h : MeasAt w wr bw m n L lks t F) (hb : Below wr.heap.size wr wr') : MeasAt w wr' bw m n L lks t F where
  st := h.st.keep (hb.mono h.st.le)
  on := h.on.trans (OnlyB.of hb)
  b0 := (hb.cell (p := ⟨w.heap.size, 0, none⟩) (by have := h.sz; show w.heap.size < _; omega)).trans h.b0
  b1 := (hb.cell (p := ⟨w.heap.size + 1, 0, none⟩) h.sz).trans h.b1
  sz := Nat.lt_of_lt_of_le h.sz hb.size
theorem MeasAt.setFar (h : MeasAt w wr bw m n L lks t F) (x v : Nat) (hx : x < 16) (ht : t < 16) : MeasAt w (wr.setCell ⟨bw, 1 + x * 16 + t, none⟩ (.int .i64 (v : Int))) bw m n L lks t (setF F x t v) where
  st := h.st.setFar x t v hx ht
  on := h.on.trans (OnlyB.set _ _)
  b0 := (World.cell?_setCell_other _ _ _ _ (fun e => by have := h.st.lt; have := congrArg Addr.block e; simp at this; omega)).trans h.b0
  b1 := (World.cell?_setCell_other _ _ _ _ (fun e => by have := h.st.lt; have := congrArg Addr.block e; simp at this; omega)).trans h.b1
  sz := by simpa [World.setCell] using h.sz
theorem MeasAt.setBox (h : MeasAt w wr bw m n L lks t F) (b : Nat) (hb : w.heap.size + 2 ≤ b) (v : Value) : MeasAt w (wr.setCell ⟨b, 0, none⟩ v) bw m n L lks t F where
  st := h.st.keep ((Below.refl _ _).setCell (p := ⟨b, 0, none⟩) (by show w.heap.size ≤ b; omega) _)
  on := ⟨h.on.os, h.on.tape, h.on.output, by simpa [World.setCell] using h.on.size, fun k hk hne => (Below.heap_setCell _ _ _ _ (by show k ≠ b; omega)).trans (h.on.block k hk hne)⟩
  b0 := (World.cell?_setCell_other _ _ _ _ (fun e => by have := congrArg Addr.block e; simp at this; omega)).trans h.b0
  b1 := (World.cell?_setCell_other _ _ _ _ (fun e => by have := congrArg Addr.block e; simp at this; omega)).trans h.b1
  sz := by simpa [World.setCell] using h.sz
theorem MeasAt.congr (h : MeasAt w wr bw m n L lks t F) {F' : FarT} (he : ∀ x u, x < 16 → u < 16 → F' x u = F x u) : MeasAt w wr bw m n L lks t F' where
  st := h.st.far_congr he
  on := h.on
  b0 := h.b0
  b1 := h.b1
  sz := h.sz
end
/-- column t, its first N rows, as g has it. -/
def colF (F : FarT) (N t : Nat) (g : Nat → Nat) : FarT := fun x u => if u = t ∧ x < N then g x else F x u
theorem colF_set (F : FarT) (N t : Nat) (g : Nat → Nat) (i v : Nat) (hi : i < N) : ∀ x u, x < 16 → u < 16 → colF F N t (fun x => if x = i then v else g x) x u = setF (colF F N t g) i t v x u := fun x u _ _ => by
  simp only [colF, setF]
  by_cases e : x = i ∧ u = t
  · rw [if_pos e, if_pos ⟨e.2, by omega⟩]

    rw [if_pos e.1]
  · rw [if_neg e]
    by_cases e2 : u = t ∧ x < N
    · rw [if_pos e2, if_pos e2]

      rw [if_neg (fun h => e ⟨h, e2.1⟩)]
    · rw [if_neg e2, if_neg e2]
theorem colF_more (F : FarT) (t : Nat) (g : Nat → Nat) (i v : Nat) (hv : g i = v) : ∀ x u, x < 16 → u < 16 → colF F (i + 1) t g x u = setF (colF F i t g) i t v x u := fun x u _ _ => by
  simp only [colF, setF]
  by_cases e : x = i ∧ u = t
  · rw [if_pos e, if_pos ⟨e.2, by omega⟩, e.1, hv]
  · rw [if_neg e]
    by_cases e2 : u = t ∧ x < i
    · rw [if_pos e2, if_pos ⟨e2.1, by omega⟩]
    · rw [if_neg e2, if_neg (fun h => by by_cases q : x = i; exact e ⟨q, h.1⟩; exact e2 ⟨h.1, by omega⟩)]
theorem colF_congr (F : FarT) (N t : Nat) {g g' : Nat → Nat} (h : ∀ x, x < N → g' x = g x) : ∀ x u, x < 16 → u < 16 → colF F N t g' x u = colF F N t g x u := fun x u _ _ => by
  simp only [colF]
  by_cases e : u = t ∧ x < N
  · rw [if_pos e, if_pos e, h x e.2]
  · rw [if_neg e, if_neg e]
/-- rows ahead of i behind round f + 1, the others behind round f. -/
def hyb (L : List Lk) (t f i : Nat) : Nat → Nat := fun x => if x < i then dR L (t : Int) (f + 1) (x : Int) else dR L (t : Int) f (x : Int)
theorem dR_next_eq (L : List Lk) (t : Int) (f : Nat) (x : Int) : dR L t (f + 1) x = f ↔ dR L t f x = f := by
  rw [dR]
  by_cases h : dR L t f x < f + 1
  · rw [if_pos h]
  · rw [if_neg h]
    by_cases h2 : (outs L x).any (fun z => decide (dR L t f (toF L z) = f)) = true
    · rw [if_pos h2]; omega
    · rw [if_neg h2]
theorem hyb_eq (L : List Lk) (t f i x : Nat) : hyb L t f i x = f ↔ dR L (t : Int) f (x : Int) = f := by
  unfold hyb
  by_cases h : x < i
  · rw [if_pos h]; exact dR_next_eq L t f x
  · rw [if_neg h]
theorem dR_le (L : List Lk) (t : Int) : ∀ f x, f ≤ 15 → dR L t f x ≤ 16 := fun f x hf => by
  rcases (dR_spec L t f hf x).2 with h | h <;> omega
theorem hyb_le (L : List Lk) (t f i x : Nat) (hf : f + 1 ≤ 15) : hyb L t f i x ≤ 16 := by
  unfold hyb
  split
  · exact dR_le _ _ _ _ hf
  · exact dR_le _ _ _ _ (by omega)

set_option maxRecDepth 100000 in
set_option maxHeartbeats 16000000 in
theorem measure_any (bw m : Nat) (n : Int) (L : List Lk) (hV : Valid n L) (far : FarT) (lks : LksT) (t : Nat) (ht : (t : Int) < n) (w : World) (h : WaysAt w w.heap.size bw m n L far lks) :
    Calls Tryz.prog 70 #[.pointer (some ⟨bw, 0, none⟩), .int .i64 (t : Int)] w fun e w' => e = .returned (.tuple #[]) ∧ WaysAt w' w.heap.size bw m n L (colF far n.toNat t (fun x => dist n L (t : Int) (x : Int))) lks ∧ OnlyB bw w w' := by
  have hn1 := hV.lo
  have hn2 := hV.hi
  have ht16 : t < 16 := by omega
  have CN := hidd (fun W (h : MapAt W m n L) => Nodes_yes m n hn1 L W h)
  obtain ⟨W0, hW0⟩ : ∃ W0, ((w.alloc (.cells #[.pointer (some ⟨bw, 0, none⟩)] 70)).alloc (.cells #[.int .i64 (t : Int)] 3)) = W0 := ⟨_, rfl⟩
  have hz : W0.heap.size = w.heap.size + 2 := by rw [← hW0]; simp
  have hb0 : Below w.heap.size w W0 := by rw [← hW0]; (repeat' (first | (with_reducible exact Below.refl _ _) | (with_reducible assumption) | (with_reducible apply Below.setCell) | (with_reducible apply Below.alloc) | (with_reducible apply Below.drew) | (with_reducible apply below_drewN) | (with_reducible refine Below.trans ?_ (Below.mono (by assumption) ?_)) | omega | (simp; done) | (simp; omega)))
  have M0 : Hid (MeasAt w W0 bw m n L lks t far) := hidd ⟨h.keep hb0, OnlyB.of hb0, by rw [← hW0]; simp [go_sem], by rw [← hW0]; simp [go_sem], by omega⟩
  have HV := hidd hV
  have HZ := hidd hz
  have HW := hidd hW0
  have hblt := h.lt
  have hmap := h.map
  clear h hz hb0 hW0 hV
  refine (callsIn_wide (n := 6)).1 ?_
  refine callsIn_of_wp_marks Tryz.func70 rfl trivial ?_ rfl
  simp only [Tryz.ntmps70, List.size_toArray, List.length_cons, List.length_nil, Nat.reduceAdd, Nat.reduceSub, Array.replicate_succ, Array.replicate_zero, List.push_toArray, List.append_toArray, List.nil_append, List.cons_append]
  refine wpIn_wide.2 ?_
  go_wp2_with fail
  rw [HW.out]
  refine (CN.out _ M0.out.st.mapAt).mono ?_
  rintro e w' ⟨rfl, rfl⟩
  go_wp2_with fail
  have HG0 := M0.out.congr (F' := colF far 0 t (fun _ => 16)) (fun x u _ _ => by simp [colF])
  go_loopg [13] 20 (fun g s13 wr => ∃ i : Nat, (i : Int) ≤ n ∧ i + g = 20 ∧ s13 = .int .i64 (i : Int) ∧ MeasAt w wr bw m n L lks t (colF far i t (fun _ => 16)))
  case atStart => exact ⟨0, by omega, by omega, rfl, HG0⟩
  case round =>
    obtain ⟨i, hi, hg, rfl, hM⟩ := hrel
    have HG := hidd hg
    have c0 := hM.b0
    have c1 := hM.b1
    have HM := hidd hM
    clear hg hM
    by_cases hin : (i : Int) < n
    · have hi0 : (0 : Int) ≤ (i : Int) := by omega
      have hi16 : (i : Int) < 16 := by omega
      have ht0 : (0 : Int) ≤ (t : Int) := by omega
      have ht16' : (t : Int) < 16 := by omega
      have hfc := HM.out.st.far i t (by omega) (by omega)
      have hfz := HM.out.st.frozen (1 + i * 16 + t)
      go_wp2_with fail
      go_region
      go_wp2_with fail
      go_roundg (gk - 1)
      case measure => have := HG.out; omega
      case rel =>
        have hs : MeasAt w (wr.setCell ⟨bw, 1 + i * 16 + t, none⟩ (.int .i64 16)) bw m n L lks t (setF (colF far i t (fun _ => 16)) i t 16) := HM.out.setFar i 16 (by omega) (by omega)
        exact ⟨i + 1, by omega, by have := HG.out; omega, by go_num, (hs.below (Below.drew (Below.refl _ _))).congr (colF_more far t (fun _ => 16) i 16 rfl)⟩
    · have hin2 : i = n.toNat := by omega
      subst hin2
      have ht0 : (0 : Int) ≤ (t : Int) := by omega
      have ht16' : (t : Int) < 16 := by omega
      have hfc := HM.out.st.far t t (by omega) (by omega)
      have hfz := HM.out.st.frozen (1 + t * 16 + t)
      go_wp2_with fail
      go_region
      obtain ⟨W1, hW1⟩ : ∃ W1, ((wr.setCell ⟨bw, 1 + t * 16 + t, none⟩ (.int .i64 0)).alloc (.cells #[.int .i64 1] 3)).drew = W1 := ⟨_, rfl⟩
      have M1 : Hid (MeasAt w W1 bw m n L lks t (colF far n.toNat t (fun x => dR L (t : Int) 0 (x : Int)))) := hidd (by
        have hs : MeasAt w (wr.setCell ⟨bw, 1 + t * 16 + t, none⟩ (.int .i64 0)) bw m n L lks t (setF (colF far n.toNat t (fun _ => 16)) t t 0) := HM.out.setFar t 0 (by omega) (by omega)
        rw [← hW1]
        refine (((hs.below (below_new (Below.refl _ _) _)).below (Below.drew (Below.refl _ _)))).congr (fun x u hx hu => ?_)
        rw [← colF_set far n.toNat t (fun _ => 16) t 0 (by omega) x u hx hu]
        refine colF_congr far n.toNat t (fun x hx => ?_) x u hx hu
        simp only [dR]
        by_cases e : x = t
        · rw [if_pos (by omega), if_pos e]
        · rw [if_neg (by omega), if_neg e])
      clear hfc hfz
      have hc5 : W1.cell? ⟨wr.heap.size, 0, none⟩ = some (.int .i64 1) := by rw [← hW1]; simp [go_sem]
      have hf5 : W1.frozen? ⟨wr.heap.size, 0, none⟩ = false := by rw [← hW1]; simp [go_sem]
      have hs5 : wr.heap.size < W1.heap.size := by rw [← hW1]; simp
      have hw5 : w.heap.size + 2 ≤ wr.heap.size := HM.out.sz
      have HS1 := hidd hW1
      go_wp2_with fail

      refine wp_loop_ghost_k (fun g a wr => ∃ u4 u5 u6 u7 u8 u9 u10 u11 u12 u13 u14 u15 u16 u17 u18 u19 u20 u21 u22 u23 u24 u25 u26 u27 u28 u29 u30 u31 u32 u33 u34 u35 u36 u37 u38 u39 u40 u41 u42 u43 u44 u45 u46 u47 u48 u49 u50 u51 u52 u53 u54 u55 u56 u57 u58 u59 u60 u61 u62 u63 u64 u65 u66 u67 u68 u69 u70 u71 u72 u73 u74 u75 u76 u77 u78 u79 u80 u81 u82 u83, ∃ ds : List Deferred, (∃ (f b5 : Nat) (Ds : List Nat), f + 1 ≤ n.toNat ∧ f + g = 20 ∧ u5 = .pointer (some ⟨b5, 0, none⟩) ∧ (w.heap.size + 2 ≤ b5 ∧ b5 < wr.heap.size ∧ wr.cell? ⟨b5, 0, none⟩ = some (.int .i64 ((f : Int) + 1)) ∧ wr.frozen? ⟨b5, 0, none⟩ = false) ∧ MeasAt w wr bw m n L lks t (colF far n.toNat t (fun x => dR L (t : Int) f (x : Int))) ∧ ds = Ds.map mkD ∧ OpenD w.heap.size wr Ds) ∧ a = { tmps := #[.pointer (some ⟨bw, 0, none⟩), .int .i64 (t : Int), .pointer (some ⟨w.heap.size, 0, none⟩), .pointer (some ⟨w.heap.size + 1, 0, none⟩), u4, u5, u6, u7, u8, u9, u10, u11, u12, u13, u14, u15, u16, u17, u18, u19, u20, u21, u22, u23, u24, u25, u26, u27, u28, u29, u30, u31, u32, u33, u34, u35, u36, u37, u38, u39, u40, u41, u42, u43, u44, u45, u46, u47, u48, u49, u50, u51, u52, u53, u54, u55, u56, u57, u58, u59, u60, u61, u62, u63, u64, u65, u66, u67, u68, u69, u70, u71, u72, u73, u74, u75, u76, u77, u78, u79, u80, u81, u82, u83], defers := ds }) 20 ?_ ?_
      · (repeat apply Exists.intro); refine ⟨?_, rfl⟩; exact ⟨0, wr.heap.size, [], by omega, by omega, rfl, ⟨hw5, hs5, hc5, hf5⟩, M1.out, rfl, OpenD.nil _ _⟩
      clear HG HM HS1 hW1 M1 hc5 hf5 hs5 hw5 c0 c1
      intro g2 a W2 hinv
      obtain ⟨u4, hinv⟩ := hinv
      obtain ⟨u5, hinv⟩ := hinv
      obtain ⟨u6, hinv⟩ := hinv
      obtain ⟨u7, hinv⟩ := hinv
      obtain ⟨u8, hinv⟩ := hinv
      obtain ⟨u9, hinv⟩ := hinv
      obtain ⟨u10, hinv⟩ := hinv
      obtain ⟨u11, hinv⟩ := hinv
      obtain ⟨u12, hinv⟩ := hinv
      obtain ⟨u13, hinv⟩ := hinv
      obtain ⟨u14, hinv⟩ := hinv
      obtain ⟨u15, hinv⟩ := hinv
      obtain ⟨u16, hinv⟩ := hinv
      obtain ⟨u17, hinv⟩ := hinv
      obtain ⟨u18, hinv⟩ := hinv
      obtain ⟨u19, hinv⟩ := hinv
      obtain ⟨u20, hinv⟩ := hinv
      obtain ⟨u21, hinv⟩ := hinv
      obtain ⟨u22, hinv⟩ := hinv
      obtain ⟨u23, hinv⟩ := hinv
      obtain ⟨u24, hinv⟩ := hinv
      obtain ⟨u25, hinv⟩ := hinv
      obtain ⟨u26, hinv⟩ := hinv
      obtain ⟨u27, hinv⟩ := hinv
      obtain ⟨u28, hinv⟩ := hinv
      obtain ⟨u29, hinv⟩ := hinv
      obtain ⟨u30, hinv⟩ := hinv
      obtain ⟨u31, hinv⟩ := hinv
      obtain ⟨u32, hinv⟩ := hinv
      obtain ⟨u33, hinv⟩ := hinv
      obtain ⟨u34, hinv⟩ := hinv
      obtain ⟨u35, hinv⟩ := hinv
      obtain ⟨u36, hinv⟩ := hinv
      obtain ⟨u37, hinv⟩ := hinv
      obtain ⟨u38, hinv⟩ := hinv
      obtain ⟨u39, hinv⟩ := hinv
      obtain ⟨u40, hinv⟩ := hinv
      obtain ⟨u41, hinv⟩ := hinv
      obtain ⟨u42, hinv⟩ := hinv
      obtain ⟨u43, hinv⟩ := hinv
      obtain ⟨u44, hinv⟩ := hinv
      obtain ⟨u45, hinv⟩ := hinv
      obtain ⟨u46, hinv⟩ := hinv
      obtain ⟨u47, hinv⟩ := hinv
      obtain ⟨u48, hinv⟩ := hinv
      obtain ⟨u49, hinv⟩ := hinv
      obtain ⟨u50, hinv⟩ := hinv
      obtain ⟨u51, hinv⟩ := hinv
      obtain ⟨u52, hinv⟩ := hinv
      obtain ⟨u53, hinv⟩ := hinv
      obtain ⟨u54, hinv⟩ := hinv
      obtain ⟨u55, hinv⟩ := hinv
      obtain ⟨u56, hinv⟩ := hinv
      obtain ⟨u57, hinv⟩ := hinv
      obtain ⟨u58, hinv⟩ := hinv
      obtain ⟨u59, hinv⟩ := hinv
      obtain ⟨u60, hinv⟩ := hinv
      obtain ⟨u61, hinv⟩ := hinv
      obtain ⟨u62, hinv⟩ := hinv
      obtain ⟨u63, hinv⟩ := hinv
      obtain ⟨u64, hinv⟩ := hinv
      obtain ⟨u65, hinv⟩ := hinv
      obtain ⟨u66, hinv⟩ := hinv
      obtain ⟨u67, hinv⟩ := hinv
      obtain ⟨u68, hinv⟩ := hinv
      obtain ⟨u69, hinv⟩ := hinv
      obtain ⟨u70, hinv⟩ := hinv
      obtain ⟨u71, hinv⟩ := hinv
      obtain ⟨u72, hinv⟩ := hinv
      obtain ⟨u73, hinv⟩ := hinv
      obtain ⟨u74, hinv⟩ := hinv
      obtain ⟨u75, hinv⟩ := hinv
      obtain ⟨u76, hinv⟩ := hinv
      obtain ⟨u77, hinv⟩ := hinv
      obtain ⟨u78, hinv⟩ := hinv
      obtain ⟨u79, hinv⟩ := hinv
      obtain ⟨u80, hinv⟩ := hinv
      obtain ⟨u81, hinv⟩ := hinv
      obtain ⟨u82, hinv⟩ := hinv
      obtain ⟨u83, hinv⟩ := hinv
      obtain ⟨ds, ⟨f, b5, Ds, hf, hg, hu5, ⟨hb5, hbl5, hc5, hf5⟩, hM, hds, hO⟩, ha⟩ := hinv
      subst hu5 ha
      intro _ _ _ _
      have HG := hidd hg
      have HDS := hidd hds
      have HO := hidd hO
      have HM := hidd hM
      have c0 := hM.b0
      have c1 := hM.b1
      have c2 := hM.st.map
      have CNK := hidd (fun k => CN.out (W2.drewN k) (hM.st.mapAt.below (below_drewN (Below.refl _ _) k)))
      clear hg hds hO hM
      by_cases hin : ((f : Int) + 1) < n
      · go_wp2_with fail
        go_quiet ((go_at_call 67; exact still_quiet (CNK.out _)))
        go_wp2_with fail
        generalize hW3 : W2.drewN nq = W3
        have hb3 : Below W2.heap.size W2 W3 := by rw [← hW3]; exact below_drewN (Below.refl _ _) _
        have M3 := hidd (HM.out.below hb3)
        have hc5' : W3.cell? ⟨b5, 0, none⟩ = some (.int .i64 ((f : Int) + 1)) := (hb3.cell (p := ⟨b5, 0, none⟩) hbl5).trans hc5
        have hf5' : W3.frozen? ⟨b5, 0, none⟩ = false := (hb3.frozen (p := ⟨b5, 0, none⟩) hbl5).trans hf5
        have hbl5' : b5 < W3.heap.size := Nat.lt_of_lt_of_le hbl5 hb3.size
        have HO3 := hidd (HO.out.below hb3)
        have d0 := M3.out.b0
        have d2 := M3.out.st.map
        clear hW3 hb3 hc5 hf5 hbl5 HO HM c0 c1 c2 CNK
        refine wp_scope_straight ?_
        go_wp2_with fail
        refine (wpIn_wide (n := 6)).1 (wpIn_label ?_)
        simp only [Exit.then]
        go_at_K
        go_wp2_with fail
        refine (CN.out _ M3.out.st.mapAt).mono ?_
        rintro e w' ⟨rfl, rfl⟩
        go_wp2_with fail
        have M3' := hidd (M3.out.congr (F' := colF far n.toNat t (hyb L t f 0)) (colF_congr far n.toNat t (fun x _ => by simp [hyb])))

        refine wp_loop_ghost_k (fun g a wr => ∃ u4 u6 u7 u8 u9 u10 u11 u12 u13 u14 u15 u16 u17 u18 u19 u20 u21 u22 u23 u24 u25 u26 u27 u28 u29 u30 u31 u32 u33 u34 u35 u36 u37 u38 u39 u40 u41 u42 u43 u45 u46 u47 u48 u49 u50 u51 u52 u53 u54 u55 u56 u57 u58 u59 u60 u61 u62 u63 u64 u65 u66 u67 u68 u69 u70 u71 u72 u73 u74 u75 u76 u77 u78 u79 u80 u81 u82 u83, ∃ ds : List Deferred, (∃ (i : Nat) (Es : List Nat), (i : Int) ≤ n ∧ i + g = 20 ∧ u45 = .int .i64 (i : Int) ∧ (b5 < wr.heap.size ∧ wr.cell? ⟨b5, 0, none⟩ = some (.int .i64 ((f : Int) + 1)) ∧ wr.frozen? ⟨b5, 0, none⟩ = false) ∧ MeasAt w wr bw m n L lks t (colF far n.toNat t (hyb L t f i)) ∧ ds = Es.map mkD ∧ OpenD w.heap.size wr Es) ∧ a = { tmps := #[.pointer (some ⟨bw, 0, none⟩), .int .i64 (t : Int), .pointer (some ⟨w.heap.size, 0, none⟩), .pointer (some ⟨w.heap.size + 1, 0, none⟩), u4, .pointer (some ⟨b5, 0, none⟩), u6, u7, u8, u9, u10, u11, u12, u13, u14, u15, u16, u17, u18, u19, u20, u21, u22, u23, u24, u25, u26, u27, u28, u29, u30, u31, u32, u33, u34, u35, u36, u37, u38, u39, u40, u41, u42, u43, .int .i64 n, u45, u46, u47, u48, u49, u50, u51, u52, u53, u54, u55, u56, u57, u58, u59, u60, u61, u62, u63, u64, u65, u66, u67, u68, u69, u70, u71, u72, u73, u74, u75, u76, u77, u78, u79, u80, u81, u82, u83], defers := ds }) 20 ?_ ?_
        · (repeat apply Exists.intro); refine ⟨?_, rfl⟩; exact ⟨0, Ds, by omega, by omega, rfl, ⟨hbl5', hc5', hf5'⟩, M3'.out, HDS.out, HO3.out⟩
        clear M3 M3' hc5' hf5' hbl5' HO3 HDS d0 d2
        intro g4 a W4 hinv
        obtain ⟨u4, hinv⟩ := hinv
        obtain ⟨u6, hinv⟩ := hinv
        obtain ⟨u7, hinv⟩ := hinv
        obtain ⟨u8, hinv⟩ := hinv
        obtain ⟨u9, hinv⟩ := hinv
        obtain ⟨u10, hinv⟩ := hinv
        obtain ⟨u11, hinv⟩ := hinv
        obtain ⟨u12, hinv⟩ := hinv
        obtain ⟨u13, hinv⟩ := hinv
        obtain ⟨u14, hinv⟩ := hinv
        obtain ⟨u15, hinv⟩ := hinv
        obtain ⟨u16, hinv⟩ := hinv
        obtain ⟨u17, hinv⟩ := hinv
        obtain ⟨u18, hinv⟩ := hinv
        obtain ⟨u19, hinv⟩ := hinv
        obtain ⟨u20, hinv⟩ := hinv
        obtain ⟨u21, hinv⟩ := hinv
        obtain ⟨u22, hinv⟩ := hinv
        obtain ⟨u23, hinv⟩ := hinv
        obtain ⟨u24, hinv⟩ := hinv
        obtain ⟨u25, hinv⟩ := hinv
        obtain ⟨u26, hinv⟩ := hinv
        obtain ⟨u27, hinv⟩ := hinv
        obtain ⟨u28, hinv⟩ := hinv
        obtain ⟨u29, hinv⟩ := hinv
        obtain ⟨u30, hinv⟩ := hinv
        obtain ⟨u31, hinv⟩ := hinv
        obtain ⟨u32, hinv⟩ := hinv
        obtain ⟨u33, hinv⟩ := hinv
        obtain ⟨u34, hinv⟩ := hinv
        obtain ⟨u35, hinv⟩ := hinv
        obtain ⟨u36, hinv⟩ := hinv
        obtain ⟨u37, hinv⟩ := hinv
        obtain ⟨u38, hinv⟩ := hinv
        obtain ⟨u39, hinv⟩ := hinv
        obtain ⟨u40, hinv⟩ := hinv
        obtain ⟨u41, hinv⟩ := hinv
        obtain ⟨u42, hinv⟩ := hinv
        obtain ⟨u43, hinv⟩ := hinv
        obtain ⟨u45, hinv⟩ := hinv
        obtain ⟨u46, hinv⟩ := hinv
        obtain ⟨u47, hinv⟩ := hinv
        obtain ⟨u48, hinv⟩ := hinv
        obtain ⟨u49, hinv⟩ := hinv
        obtain ⟨u50, hinv⟩ := hinv
        obtain ⟨u51, hinv⟩ := hinv
        obtain ⟨u52, hinv⟩ := hinv
        obtain ⟨u53, hinv⟩ := hinv
        obtain ⟨u54, hinv⟩ := hinv
        obtain ⟨u55, hinv⟩ := hinv
        obtain ⟨u56, hinv⟩ := hinv
        obtain ⟨u57, hinv⟩ := hinv
        obtain ⟨u58, hinv⟩ := hinv
        obtain ⟨u59, hinv⟩ := hinv
        obtain ⟨u60, hinv⟩ := hinv
        obtain ⟨u61, hinv⟩ := hinv
        obtain ⟨u62, hinv⟩ := hinv
        obtain ⟨u63, hinv⟩ := hinv
        obtain ⟨u64, hinv⟩ := hinv
        obtain ⟨u65, hinv⟩ := hinv
        obtain ⟨u66, hinv⟩ := hinv
        obtain ⟨u67, hinv⟩ := hinv
        obtain ⟨u68, hinv⟩ := hinv
        obtain ⟨u69, hinv⟩ := hinv
        obtain ⟨u70, hinv⟩ := hinv
        obtain ⟨u71, hinv⟩ := hinv
        obtain ⟨u72, hinv⟩ := hinv
        obtain ⟨u73, hinv⟩ := hinv
        obtain ⟨u74, hinv⟩ := hinv
        obtain ⟨u75, hinv⟩ := hinv
        obtain ⟨u76, hinv⟩ := hinv
        obtain ⟨u77, hinv⟩ := hinv
        obtain ⟨u78, hinv⟩ := hinv
        obtain ⟨u79, hinv⟩ := hinv
        obtain ⟨u80, hinv⟩ := hinv
        obtain ⟨u81, hinv⟩ := hinv
        obtain ⟨u82, hinv⟩ := hinv
        obtain ⟨u83, hinv⟩ := hinv
        obtain ⟨ds4, ⟨i, Es, hi, hg4, hu45, ⟨hbl5, hc5, hf5⟩, hM, hds, hO⟩, ha⟩ := hinv
        subst hu45 ha
        intro _ _ _ _
        have HG4 := hidd hg4
        have HDS := hidd hds
        have HO := hidd hO
        have HM := hidd hM
        clear hg4 hds hO hM
        by_cases hin3 : (i : Int) < n
        · have hi0 : (0 : Int) ≤ (i : Int) := by omega
          have hi16 : (i : Int) < 16 := by omega
          have ht0 : (0 : Int) ≤ (t : Int) := by omega
          have ht16' : (t : Int) < 16 := by omega
          obtain ⟨W6, hW6⟩ : ∃ W6, W4.alloc (.cells #[.int .i64 (i : Int)] 3) = W6 := ⟨_, rfl⟩
          have hb6 : Below W4.heap.size W4 W6 := by rw [← hW6]; exact below_new (Below.refl _ _) _
          have M6 := hidd (HM.out.below hb6)
          have c6 : W6.cell? ⟨W4.heap.size, 0, none⟩ = some (.int .i64 (i : Int)) := by rw [← hW6]; simp [go_sem]
          have s6 : W6.heap.size = W4.heap.size + 1 := by rw [← hW6]; simp
          have c5 := (hb6.cell (p := ⟨b5, 0, none⟩) hbl5).trans hc5
          have f5 := (hb6.frozen (p := ⟨b5, 0, none⟩) hbl5).trans hf5
          have HO6 := hidd (HO.out.below hb6)
          have c0 := M6.out.b0
          have c1 := M6.out.b1
          have hfc := M6.out.st.far i t (by omega) (by omega)
          have hval : colF far n.toNat t (hyb L t f i) i t = dR L (t : Int) f (i : Int) := by
            unfold colF
            rw [if_pos ⟨rfl, by omega⟩]
            unfold hyb
            rw [if_neg (by omega)]
          rw [hval] at hfc
          have hd16 := dR_le L (t : Int) f (i : Int) (by omega)
          have HS6 := hidd s6
          have HW6 := hidd hW6
          have HB6 := hidd hb6
          clear hb6 s6 HM HO hc5 hf5 hval
          go_wp2_with fail
          by_cases hlt : dR L (t : Int) f (i : Int) < f + 1
          · have hlt' : ((dR L (t : Int) f (i : Int) : Nat) : Int) < (f : Int) + 1 := by omega
            have hsame : ∀ x : Nat, x < n.toNat → hyb L t f (i + 1) x = hyb L t f i x := fun x hx => by
              unfold hyb
              by_cases e : x = i
              · subst e
                rw [if_pos (by omega), if_neg (by omega), dR, if_pos hlt]
              · by_cases e2 : x < i
                · rw [if_pos (by omega), if_pos e2]
                · rw [if_neg (by omega), if_neg e2]
            have HSAME := hidd hsame
            clear hsame
            go_quiet (fail)
            go_wp2_with fail
            go_roundg (g4 - 1)
            case measure => have := HG4.out; omega
            case rel =>
              have hbd : Below W6.heap.size W6 (W6.drewN nq) := below_drewN (Below.refl _ _) _
              exact ⟨i + 1, Es, by omega, by have := HG4.out; omega, by go_num, ⟨by have := HS6.out; show b5 < W6.heap.size; omega, c5, f5⟩, (M6.out.below hbd).congr (colF_congr far n.toNat t HSAME.out), HDS.out, HO6.out.below hbd⟩
          · have hlt' : ¬ ((dR L (t : Int) f (i : Int) : Nat) : Int) < (f : Int) + 1 := by omega
            have NA := hidd (fun W => near_any bw (i : Int) W)
            go_quiet (fail)
            go_wp2_with fail
            generalize hW7 : W6.drewN nq = W7
            have hb7 : Below W6.heap.size W6 W7 := by rw [← hW7]; exact below_drewN (Below.refl _ _) _
            have M7 := hidd (M6.out.below hb7)
            have HS7 := hidd (show W7.heap.size = W6.heap.size by rw [← hW7]; simp)
            have e5 := (hb7.cell (p := ⟨b5, 0, none⟩) (show b5 < W6.heap.size by have := HS6.out; omega)).trans c5
            have z5 := (hb7.frozen (p := ⟨b5, 0, none⟩) (show b5 < W6.heap.size by have := HS6.out; omega)).trans f5
            have e6 := (hb7.cell (p := ⟨W4.heap.size, 0, none⟩) (show W4.heap.size < W6.heap.size by have := HS6.out; omega)).trans c6
            have HO7 := hidd (HO6.out.below hb7)
            have d0 := M7.out.b0
            have d1 := M7.out.b1
            clear hb7 hW7 c5 f5 c6 c0 c1 hfc hlt'
            go_wp2_with fail
            refine (NA.out _).mono ?_
            rintro e w10 ⟨rfl, hw10⟩
            obtain ⟨W10, hW10⟩ : ∃ W10, (W7.alloc (.cells #[.pointer (some ⟨bw, 0, none⟩)] 70)).alloc (.cells #[.int .i64 (i : Int)] 3) = W10 := ⟨_, rfl⟩
            rw [hW10] at hw10
            subst hw10
            have s10 : w10.heap.size = W7.heap.size + 2 := by rw [← hW10]; simp
            have hb10 : Below W7.heap.size W7 w10 := by rw [← hW10]; exact below_new (below_new (Below.refl _ _) _) _
            have M10 := hidd (M7.out.below hb10)
            have q10 : w10.cell? ⟨W7.heap.size, 0, none⟩ = some (.pointer (some ⟨bw, 0, none⟩)) := by rw [← hW10]; simp [go_sem]
            have r10 : w10.cell? ⟨W7.heap.size + 1, 0, none⟩ = some (.int .i64 (i : Int)) := by rw [← hW10]; simp [go_sem]
            have hs6 := HS6.out
            have s7 := HS7.out
            have g5 := (hb10.cell (p := ⟨b5, 0, none⟩) (show b5 < W7.heap.size by omega)).trans e5
            have y5 := (hb10.frozen (p := ⟨b5, 0, none⟩) (show b5 < W7.heap.size by omega)).trans z5
            have g6 := (hb10.cell (p := ⟨W4.heap.size, 0, none⟩) (show W4.heap.size < W7.heap.size by omega)).trans e6
            have HO10 := hidd (HO7.out.below hb10)
            have HS10 := hidd s10
            clear hW10 hb10 e5 z5 e6 d0 d1 HO7 HO6 M7 M6 HW6 HB6 s7 hs6 s10
            go_wp2_with fail
            have s10 := HS10.out
            have s7 := HS7.out
            have hs6 := HS6.out
            have HLT := hidd hlt
            have SQ := hidd (near1_seq (6 - 1) (by omega) W7.heap.size (W7.heap.size + 1) bw m n L HV.out (i : Int) hi0 hin3 w10)
            have RD : Hid (NearRd W7.heap.size (W7.heap.size + 1) bw m n L (i : Int) w10) := hidd ⟨q10, r10, M10.out.st.map, by omega, by omega, by omega, M10.out.st.mapAt⟩
            have hbw10 : bw < w10.heap.size := by omega
            refine (wpIn_wide (n := 6)).1 ?_
            refine wpIn_rangeFunc_B rfl (by omega) (gf := 106) (lb := #[.pointer (some ⟨W7.heap.size, 0, none⟩), .pointer (some ⟨W7.heap.size + 1, 0, none⟩)]) rfl trivial (enters_of Tryz.func106 (by kernel_rfl) rfl)
              SQ.out (fun _ => rfl)
              (fun pre X => Below w10.heap.size w10 X ∧ ∀ z ∈ pre, dR L (t : Int) f (toF L z) ≠ f)
              (fun c pre X => c = .exit 5 ∧ Below w10.heap.size (w10.setCell ⟨bw, 1 + i * 16 + t, none⟩ (.int .i64 ((f : Int) + 1))) X ∧ ∃ z ∈ pre, dR L (t : Int) f (toF L z) = f)
              (fun s X h => RD.out.below h.1) (fun s X Y h hb => ⟨h.1.trans hb, h.2⟩) (fun c s X Y h hb => ⟨h.1, h.2.1.trans hb, h.2.2⟩) ⟨Below.refl _ _, by simp⟩
              (fun z => .cells #[.int .i64 z, .int .i64 (toF L z)] 148)
              ?a1 ?assign ?body ?done ?stop
            case assign =>
              intro l z X K hK
              unfold stepV
              gi_wp2
              generalize hq : X.heap.size = q
              exact hK q hq.symm
            case body =>
              rintro l q pre z X hq1 hq2 hqx ⟨hBel, hno⟩ hlen
              have hM := M10.out.below hBel
              have c0 := hM.b0
              have c1 := hM.b1
              have c5 := (hBel.cell (p := ⟨b5, 0, none⟩) (show b5 < w10.heap.size by omega)).trans g5
              have c6 := (hBel.cell (p := ⟨W4.heap.size, 0, none⟩) (show W4.heap.size < w10.heap.size by omega)).trans g6
              have c7 : X.cell? ⟨q, 0, none⟩ = some (.int .i64 z) := by simp [World.cell?, hqx]
              have c8 : X.cell? ⟨q, 1, none⟩ = some (.int .i64 (toF L z)) := by simp [World.cell?, hqx]
              have hyi := toF_in HV.out z
              obtain ⟨y, hy⟩ : ∃ y : Nat, toF L z = y := ⟨(toF L z).toNat, by omega⟩
              rw [hy] at hyi
              have hy0 : (0 : Int) ≤ (y : Int) := by omega
              have hy16 : (y : Int) < 16 := by omega
              have hfc := hM.st.far y t (by omega) (by omega)
              have hval : colF far n.toNat t (hyb L t f i) y t = hyb L t f i y := by
                unfold colF
                rw [if_pos ⟨rfl, by omega⟩]
              rw [hval] at hfc
              have hvl := hyb_le L t f i y (by omega)
              have HEQ := hidd (hyb_eq L t f i y)
              have HNO := hidd hno
              have HBEL := hidd hBel
              have HMX := hidd hM
              have HY := hidd hy
              have hfc2 := hM.st.far i t (by omega) (by omega)
              have hfz2 := hM.st.frozen (1 + i * 16 + t)
              rw [hy] at c8
              generalize hyb L t f i y = V at *
              generalize colF far n.toNat t (hyb L t f i) i t = V2 at *
              have hmix : Tryz.prog.follows .mixedOrders = true := by kernel_rfl
              clear hBel hno hqx hM hval hy SQ RD
              have hff : (f : Int) + 1 - 1 = (f : Int) := by omega
              by_cases hv : V = f
              · have hvb : ((V : Int) == (f : Int)) = true := by rw [hv]; exact beq_self_eq_true _
                gi_wp2_with fail
                refine wpIn_quiet_round (F := Fence.wide) rfl hmix (by kernel_rfl) rfl ?_
                repeat (gi_big_quiet_step (fail))
                refine wpQuietIn_nil ?_
                intro _ hw'
                obtain ⟨nq, hw''⟩ := hw'
                subst hw''
                gi_wp2_with fail
                generalize hX1 : X.drewN nq = X1
                have hbx : Below X.heap.size X X1 := by rw [← hX1]; exact below_drewN (Below.refl _ _) _
                have hXs : X1.heap.size = X.heap.size := by rw [← hX1]; simp
                have e0 := (HMX.out.below hbx).b0
                have e1 := (HMX.out.below hbx).b1
                have hsx := HBEL.out.size
                have e5 := (hbx.cell (p := ⟨b5, 0, none⟩) (show b5 < X.heap.size by omega)).trans c5
                have e6 := (hbx.cell (p := ⟨W4.heap.size, 0, none⟩) (show W4.heap.size < X.heap.size by omega)).trans c6
                have efc := (HMX.out.below hbx).st.far i t (by omega) (by omega)
                have efz := (HMX.out.below hbx).st.frozen (1 + i * 16 + t)
                have HXX := hidd (show Below w10.heap.size w10 X1 from HBEL.out.trans (hbx.mono hsx))
                have HXA := hidd (Above.below (B := w10.heap.size) hbx)
                have HFI := hidd (HEQ.out.1 hv)
                generalize colF far n.toNat t (hyb L t f i) i t = V3 at *
                clear hX1 hbx c0 c1 c5 c6 c7 c8 hfc hfc2 hfz2 hvb hv hXs hsx
                refine wpIn_held_round (n := 6 - 1 - 1) (fun Y => Y.cell? ⟨w.heap.size, 0, none⟩ = some (.pointer (some ⟨bw, 0, none⟩)) ∧ Y.cell? ⟨w.heap.size + 1, 0, none⟩ = some (.int .i64 (t : Int)) ∧ Y.cell? ⟨b5, 0, none⟩ = some (.int .i64 ((f : Int) + 1)) ∧ Y.cell? ⟨W4.heap.size, 0, none⟩ = some (.int .i64 (i : Int))) hmix (fun ⟨_, _, h⟩ => h) rfl ⟨e0, e1, e5, e6⟩ (fun hSW => ?_)
                refine wpAnyH_take (i := 0) (v := .pointer (some ⟨bw, 0, none⟩)) rfl (by kernel_rfl) (by kernel_rfl) (by kernel_rfl) (fun _ _ _ h => h) (Or.inl ⟨by rfl, fun Y hY => by (obtain ⟨y0, y1, y5, y6⟩ := hY; go_simp)⟩) hSW ?_
                simp only [Act.put, List.setIfInBounds_toArray]
                refine wpAnyH_take (i := 1) (v := .int .i64 (i : Int)) rfl (by kernel_rfl) (by kernel_rfl) (by kernel_rfl) (fun _ _ _ h => h) (Or.inl ⟨by rfl, fun Y hY => by (obtain ⟨y0, y1, y5, y6⟩ := hY; go_simp)⟩) hSW ?_
                simp only [Act.put]
                refine wpAnyH_take (i := 2) (v := .int .i64 (t : Int)) rfl (by kernel_rfl) (by kernel_rfl) (by kernel_rfl) (fun _ _ _ h => h) (Or.inl ⟨by rfl, fun Y hY => by (obtain ⟨y0, y1, y5, y6⟩ := hY; go_simp)⟩) hSW ?_
                simp only [Act.put]
                refine wpAnyH_take (i := 3) (v := .int .i64 ((f : Int) + 1)) rfl (by kernel_rfl) (by kernel_rfl) (by kernel_rfl) (fun _ _ _ h => h) (Or.inl ⟨by rfl, fun Y hY => by (obtain ⟨y0, y1, y5, y6⟩ := hY; go_simp)⟩) hSW ?_
                simp only [Act.put]
                refine wpAnyH_take (i := 4) (v := .pointer (some ⟨bw, 0, none⟩)) rfl (by kernel_rfl) (by kernel_rfl) (by kernel_rfl) (fun _ _ _ h => h) (Or.inl ⟨by rfl, fun Y hY => by (obtain ⟨y0, y1, y5, y6⟩ := hY; go_simp)⟩) hSW ?_
                simp only [Act.put]
                refine wpAnyH_take (i := 5) (v := .pointer (some ⟨bw, 1, none⟩)) rfl (by kernel_rfl) (by kernel_rfl) (by kernel_rfl) (fun _ _ _ h => h) (Or.inl ⟨by rfl, fun Y hY => by (obtain ⟨y0, y1, y5, y6⟩ := hY; go_simp)⟩) hSW ?_
                simp only [Act.put]
                refine wpAnyH_take (i := 6) (v := .pointer (some ⟨bw, 1 + i * 16, none⟩)) rfl (by kernel_rfl) (by kernel_rfl) (by kernel_rfl) (fun _ _ _ h => h) (Or.inl ⟨by rfl, fun Y hY => by (obtain ⟨y0, y1, y5, y6⟩ := hY; go_simp)⟩) hSW ?_
                simp only [Act.put]
                refine wpAnyH_take (i := 7) (v := .pointer (some ⟨bw, 1 + i * 16 + t, none⟩)) rfl (by kernel_rfl) (by kernel_rfl) (by kernel_rfl) (fun _ _ _ h => h) (Or.inl ⟨by rfl, fun Y hY => by (obtain ⟨y0, y1, y5, y6⟩ := hY; go_simp)⟩) hSW ?_
                simp only [Act.put]
                refine wpAnyH_ready (rs := [8]) (by kernel_rfl) (by simp) ?_
                refine AllReadyH.cons rfl (fun K hK => ?_) AllReadyH.nil
                have efc' : X1.drew.cell? ⟨bw, 1 + i * 16 + t, none⟩ = some (.int .i64 (V3 : Int)) := efc
                have efz' : X1.drew.frozen? ⟨bw, 1 + i * 16 + t, none⟩ = false := efz
                have HSW := hidd hSW
                clear hSW e0 e1 e5 e6 efc efz
                go_simp
                have hone := fun (b : Nat) (hb : b ≠ bw) => (show ((X1.drew).setCell ⟨bw, 1 + i * 16 + t, none⟩ (.int .i64 ((f : Int) + 1))).cell? ⟨b, 0, none⟩ = X1.drew.cell? ⟨b, 0, none⟩ from World.cell?_setCell_other _ _ _ _ (fun e => hb (congrArg Addr.block e).symm))
                obtain ⟨y0, y1, y5, y6⟩ := HSW.out
                refine hK.out _ _ ⟨(hone _ (by omega)).trans y0, (hone _ (by omega)).trans y1, (hone _ (by omega)).trans y5, (hone _ (by have := hs6; have := s7; have := M10.out.st.lt; have := hb5; omega)).trans y6⟩ (fun _ => wpAnyH_done (by kernel_rfl) ?_ _)
                clear hone y0 y1 y5 y6 hK efc' efz'
                gi_wp2_with fail
                exact ⟨HXA.out.trans ((Above.below (Below.drew (Below.refl _ _))).trans (Above.set _ _ _ hbw10)), rfl, (below_set2 (HXX.out.trans (Below.drew (Below.refl _ _))) _ _), z, by simp, by rw [HY.out]; exact HFI.out⟩
              · have hvb : ((V : Int) == (f : Int)) = false := beq_eq_false_iff_ne.2 (by omega)
                gi_wp2_with fail
                refine wpIn_quiet_round (F := Fence.wide) rfl hmix (by kernel_rfl) rfl ?_
                repeat (gi_big_quiet_step (fail))
                refine wpQuietIn_nil ?_
                intro _ hw'
                obtain ⟨nq, hw''⟩ := hw'
                subst hw''
                gi_wp2_with fail
                refine ⟨Above.below (below_drewN (Below.refl _ _) _), HBEL.out.trans (below_drewN (Below.refl _ _) _), fun z' hz' => ?_⟩
                rcases List.mem_append.1 hz' with h | h
                · exact HNO.out z' h
                · have e : z' = z := by simpa using h
                  rw [e, HY.out]
                  exact fun h => hv (HEQ.out.2 h)
            case done =>
              rintro D xs X hD hxs ⟨hBel, hno⟩ hK
              subst hxs
              have hany : ¬ (outs L (i : Int)).any (fun z => decide (dR L (t : Int) f (toF L z) = f)) = true := fun h => by
                obtain ⟨z, hz, hd⟩ := List.any_eq_true.1 h
                exact hno z hz (of_decide_eq_true hd)
              have HSAME := hidd (fun (x : Nat) (hx : x < n.toNat) => (show hyb L t f (i + 1) x = hyb L t f i x by
                unfold hyb
                by_cases e : x = i
                · subst e
                  rw [if_pos (by omega), if_neg (by omega), dR, if_neg HLT.out, if_neg hany]
                · by_cases e2 : x < i
                  · rw [if_pos (by omega), if_pos e2]
                  · rw [if_neg (by omega), if_neg e2]))
              have HB := hidd hBel
              have HK := hidd hK
              have HD := hidd hD
              have hbX := (hBel.cell (p := ⟨b5, 0, none⟩) (show b5 < w10.heap.size by omega)).trans g5
              have hfX := (hBel.frozen (p := ⟨b5, 0, none⟩) (show b5 < w10.heap.size by omega)).trans y5
              clear hBel hno hany hK hD SQ RD g5 y5 g6 q10 r10
              go_wp2_with fail
              go_roundg (g4 - 1)
              case measure => have := HG4.out; omega
              case rel =>
                exact ⟨i + 1, D :: Es, by omega, by have := HG4.out; omega, by go_num, ⟨by have := HB.out.size; omega, hbX, hfX⟩, (M10.out.below HB.out).congr (colF_congr far n.toNat t HSAME.out), by rw [HDS.out]; rfl, (HO10.out.below HB.out).snoc (by have := HD.out; omega) (fun h => by have := HO10.out.lt D h; have := HD.out; omega) HK.out⟩
            case stop =>
              rintro D c pre X hD hSp ⟨hc, hBel, z, hz, hzf⟩ hK
              subst hc
              have hany : (outs L (i : Int)).any (fun z => decide (dR L (t : Int) f (toF L z) = f)) = true := List.any_eq_true.2 ⟨z, hSp.subset hz, decide_eq_true hzf⟩
              have HNXT := hidd (fun (x : Nat) (hx : x < n.toNat) => (show hyb L t f (i + 1) x = (if x = i then f + 1 else hyb L t f i x) by
                by_cases e : x = i
                · subst e
                  rw [if_pos rfl]
                  unfold hyb
                  rw [if_pos (by omega), dR, if_neg HLT.out, if_pos hany]
                · rw [if_neg e]
                  unfold hyb
                  by_cases e2 : x < i
                  · rw [if_pos (by omega), if_pos e2]
                  · rw [if_neg (by omega), if_neg e2]))
              have hcell := M10.out.st.far i t (by omega) (by omega)
              have M11 : Hid (MeasAt w (w10.setCell ⟨bw, 1 + i * 16 + t, none⟩ (.int .i64 ((f : Int) + 1))) bw m n L lks t (setF (colF far n.toNat t (hyb L t f i)) i t (f + 1))) := hidd (M10.out.setFar i (f + 1) (by omega) (by omega))
              have HO11 := hidd (HO10.out.set hcell (.int .i64 ((f : Int) + 1)))
              have sz11 : (w10.setCell ⟨bw, 1 + i * 16 + t, none⟩ (.int .i64 ((f : Int) + 1))).heap.size = w10.heap.size := by simp [World.setCell]
              have HB : Hid (Below (w10.setCell ⟨bw, 1 + i * 16 + t, none⟩ (.int .i64 ((f : Int) + 1))).heap.size (w10.setCell ⟨bw, 1 + i * 16 + t, none⟩ (.int .i64 ((f : Int) + 1))) X) := hidd (by rw [sz11]; exact hBel)
              have HK := hidd hK
              have HD := hidd hD
              have hbX := (hBel.cell (p := ⟨b5, 0, none⟩) (show b5 < w10.heap.size by omega)).trans ((World.cell?_setCell_other _ _ _ _ (fun e => by have := congrArg Addr.block e; simp at this; omega)).trans g5)
              have hfX := (hBel.frozen (p := ⟨b5, 0, none⟩) (show b5 < w10.heap.size by omega)).trans ((World.frozen?_setCell _ _ _ _).trans y5)
              clear hBel hany hK hD hz hzf hSp SQ RD g5 y5 g6 q10 r10 hcell
              refine wpIn_wide.2 ?_
              go_wp2_with fail
              go_roundg (g4 - 1)
              case measure => have := HG4.out; omega
              case rel =>
                exact ⟨i + 1, D :: Es, by omega, by have := HG4.out; omega, by go_num, ⟨by have := HB.out.size; omega, hbX, hfX⟩, ((M11.out.below HB.out).congr (fun x u hx hu => by rw [← colF_set far n.toNat t (hyb L t f i) i (f + 1) (by omega) x u hx hu]; exact colF_congr far n.toNat t HNXT.out x u hx hu)), by rw [HDS.out]; rfl, (HO11.out.below HB.out).snoc (by have := HD.out; omega) (fun h => by have := HO10.out.lt D h; have := HD.out; omega) HK.out⟩
        · have hin3' : i = n.toNat := by omega
          have hMN := HM.out.congr (colF_congr far n.toNat t (g := hyb L t f i) (g' := fun x => dR L (t : Int) (f + 1) (x : Int)) (fun x hx => by unfold hyb; rw [if_pos (by omega)]))
          obtain ⟨W5, hW5⟩ : ∃ W5, W4.alloc (.cells #[.int .i64 ((f : Int) + 1 + 1)] 3) = W5 := ⟨_, rfl⟩
          have hb55 : Below W4.heap.size W4 W5 := by rw [← hW5]; exact below_new (Below.refl _ _) _
          have x5 : W5.cell? ⟨W4.heap.size, 0, none⟩ = some (.int .i64 ((f : Int) + 1 + 1)) := by rw [← hW5]; simp [go_sem]
          have z5 : W5.frozen? ⟨W4.heap.size, 0, none⟩ = false := by rw [← hW5]; simp [go_sem]
          have s5 : W5.heap.size = W4.heap.size + 1 := by rw [← hW5]; simp
          have HMN := hidd (hMN.below hb55)
          have HO5 := hidd (HO.out.below hb55)
          have HS5 := hidd s5
          have HW5 := hidd hW5
          have hw4 : w.heap.size + 2 ≤ W4.heap.size := HM.out.sz
          clear hMN s5 hb55 hW5 hin3'
          go_wp2_with fail
          rw [HW5.out]
          go_roundg (g2 - 1)
          case measure => have := HG.out; omega
          case rel =>
            exact ⟨f + 1, W4.heap.size, Es, by omega, by have := HG.out; omega, rfl, ⟨hw4, by have := HS5.out; omega, x5, z5⟩, HMN.out, HDS.out, HO5.out⟩
      · have hfn : f + 1 = n.toNat := by omega
        go_wp2_with fail
        go_quiet ((go_at_call 67; exact still_quiet (CNK.out _)))
        go_wp2_with fail
        rw [HDS.out]
        generalize hW3 : W2.drewN nq = W3
        have hb3 : Below W2.heap.size W2 W3 := by rw [← hW3]; exact below_drewN (Below.refl _ _) _
        have M3 := HM.out.below hb3
        refine leavesD w.heap.size Ds _ (by have := M3.sz; omega) (HO.out.below hb3) (fun w' hb' => ?_)
        refine ⟨.tuple #[], by simp [results, Tryz.results70], rfl, (M3.st.keep hb').far_congr (colF_congr far n.toNat t (fun x _ => by unfold dist; rw [show n.toNat - 1 = f from by omega])), ⟨hb'.os.trans M3.on.os, hb'.tape.trans M3.on.tape, hb'.output.trans M3.on.output, Nat.le_trans M3.on.size hb'.size, fun k hk hne => (hb'.block k hk).trans (M3.on.block k hk hne)⟩⟩
end Go.Proofs.YtalhbjmhipiiiaaGreat.Tp

