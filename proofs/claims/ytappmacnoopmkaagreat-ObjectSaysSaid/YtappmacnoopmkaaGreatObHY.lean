/- Objects: what an object says (Style). -/
import Derived.Test.YtappmacnoopmkaaGreatObH
namespace Go.Proofs.YtappmacnoopmkaaGreat
set_option linter.unusedVariables false
open Go.RowKit


def HeardY (g : Bool) (x : Int) (w : World) (e : Ending) (w' : World) : Prop := Below w.heap.size w w' ∧ ((g = true ∧ e = .returned (.tuple #[.int .i64 x, .int .i64 0])) ∨ (g = false ∧ e = .returned (.tuple #[.int .i64 0, .int .i64 171])))
def HeardOneY (g : Bool) (x : Int) (w : World) (e : Ending) (w' : World) : Prop := Below w.heap.size w w' ∧ ((g = true ∧ e = .returned (.int .i64 x)) ∨ (g = false ∧ e = errPanic 171))
set_option maxRecDepth 100000 in
set_option maxHeartbeats 8000000 in
theorem heard1Y_any (fm fo ft : Nat) (em : ∀ args w, (callFunc fm args).run Tryz.prog w = .ok (.enter fm args) w) (eo : ∀ args w, (callFunc fo args).run Tryz.prog w = .ok (.enter fo args) w) (et : ∀ args w, (callFunc ft args).run Tryz.prog w = .ok (.enter ft args) w)
    (co : Array Value) (M : Bool) (a b : Int) (vs : List Int) (hvs : vs.length ≤ 7) (x : Int) (c t : Int) (A : Option Addr) (ws : List Int) (m : Nat) (hws : ws.length ≤ 9223372036854775807) (po ps : Nat) (w : World) (ho : po < w.heap.size) (hs : ps < w.heap.size)
    (o0 : w.cell? ⟨po, 0, none⟩ = some (.int .i64 c)) (o1 : w.cell? ⟨po, 1, none⟩ = some (.int .i64 t)) (o2 : w.cell? ⟨po, 2, none⟩ = some (.slice A ws.length m))
    (p0 : w.cell? ⟨ps, 0, none⟩ = some (.func (.func fm) #[] #[])) (p1 : w.cell? ⟨ps, 1, none⟩ = some (.func (.func fo) #[] co)) (p2 : w.cell? ⟨ps, 2, none⟩ = some (.func (.func ft) #[] #[]))
    (hl : LieQ wdV 1 w (· < w.heap.size) A ws)
    (ct : ∀ W, Below w.heap.size w W → Calls Tryz.prog ft #[.agg #[.int .i64 (av ws 0), .int .i64 (av ws 1), .int .i64 (av ws 2), .int .i64 (av ws 3), .int .i64 (av ws 4), .int .i64 (av ws 5), .int .i64 (av ws 6)]] W fun e w' => e = .returned (.int .i64 x) ∧ Below W.heap.size W w')
    (cm : ∀ W, Below w.heap.size w W → Calls Tryz.prog fm #[.int .i64 x] W fun e w' => e = .returned (.bool M) ∧ Below W.heap.size W w')
    (cb : M = true → ∀ W, Below w.heap.size w W → Calls Tryz.prog fo (#[.int .i64 x] ++ co) W (ObjEnd a b vs W)) :
    Calls Tryz.prog 124 #[.pointer (some ⟨po, 0, none⟩), .pointer (some ⟨ps, 0, none⟩)] w (HeardOneY (M && sameB a b vs c t ws) x w) := by
  have CT := hidd ct
  have CM := hidd cm
  have CB := hidd cb
  have HL := hidd hl
  have CS := hidd (fun A' k' W (h1 : LieQ wdV 1 W (· < W.heap.size) A' vs) (h2 : LieQ wdV 1 W (· < W.heap.size) A ws) => Same_any a b A' vs k' c t A ws m (by omega) hws W h1 h2)
  have KS := hidd (fun W (h : Below w.heap.size w W) => (show (W.cell? ⟨po, 0, none⟩ = some (.int .i64 c) ∧ W.cell? ⟨po, 1, none⟩ = some (.int .i64 t) ∧ W.cell? ⟨po, 2, none⟩ = some (.slice A ws.length m)) ∧ W.cell? ⟨ps, 0, none⟩ = some (.func (.func fm) #[] #[]) ∧ W.cell? ⟨ps, 1, none⟩ = some (.func (.func fo) #[] co) ∧ W.cell? ⟨ps, 2, none⟩ = some (.func (.func ft) #[] #[]) from
    ⟨⟨(h.cell (p := ⟨po, 0, none⟩) ho).trans o0, (h.cell (p := ⟨po, 1, none⟩) ho).trans o1, (h.cell (p := ⟨po, 2, none⟩) ho).trans o2⟩, (h.cell (p := ⟨ps, 0, none⟩) hs).trans p0, (h.cell (p := ⟨ps, 1, none⟩) hs).trans p1, (h.cell (p := ⟨ps, 2, none⟩) hs).trans p2⟩))
  generalize sameB a b vs c t ws = SS at *
  obtain ⟨i0, hi0, hz0, hz1, hz2⟩ := info_parts wordInfo
  have hsz : (Tryz.prog.info? 2).map (·.size) = some 1 := by rw [hi0]; simp [hz1]
  have HSRC := hidd (fun (h : 0 < ((ws.take 7).map (fun n => Value.int .i64 n)).length) => (show ∃ ad, A = some ad ∧ ad.block < w.heap.size ∧ ∀ j v, ((ws.take 7).map (fun n => Value.int .i64 n))[j]? = some v → w.cell? (ad.add j) = some v by
    obtain ⟨ad, e, hB, hc⟩ := hl (by simp at h; omega)
    refine ⟨ad, e, hB, fun j v hv => ?_⟩
    simp only [List.getElem?_map, Option.map_eq_some_iff] at hv
    obtain ⟨n, hn, rfl⟩ := hv
    have := hc j n (by rw [List.getElem?_take] at hn; split at hn <;> simp_all) 0 _ rfl
    simpa using this))
  have HMIN := hidd (show ((ws.take 7).map (fun n => Value.int .i64 n)).length = Nat.min ws.length 7 by rw [List.length_map, List.length_take]; exact Nat.min_comm 7 ws.length)
  have HFIT := hidd (show 0 + ((ws.take 7).map (fun n => Value.int .i64 n)).length ≤ (List.replicate 7 (Value.int .i64 0)).length by rw [List.length_map, List.length_take, List.length_replicate]; omega)
  have HONE := hidd (fun v (hv : v ∈ (ws.take 7).map (fun n => Value.int .i64 n)) => (show v.oneCell' = true by obtain ⟨n, _, rfl⟩ := List.mem_map.1 hv; rfl))
  have HH := hidd (show ((w.alloc (.cells #[.int .i64 0, .int .i64 0, .int .i64 0, .int .i64 0, .int .i64 0, .int .i64 0, .int .i64 0] 143))).heap[w.heap.size]? = some (.cells (List.replicate 7 (Value.int .i64 0)).toArray 143 (0, 0)) by first | exact heap_alloc_new w _ | (have q := heap_alloc_new (w.alloc (.cells #[.int .i64 0] 28)) (.cells (List.replicate 7 (Value.int .i64 0)).toArray 143); simpa using q))
  have e7 : ws.length.min 7 = (ws.take 7).length := by rw [List.length_take]; exact Nat.min_comm _ _
  have hpre : Below w.heap.size w (w.alloc (.cells #[.int .i64 0, .int .i64 0, .int .i64 0, .int .i64 0, .int .i64 0, .int .i64 0, .int .i64 0] 143)) := by (repeat' (first | (with_reducible exact Below.refl _ _) | (with_reducible assumption) | (with_reducible apply Below.setCell) | (with_reducible apply Below.alloc) | (with_reducible apply Below.drew) | (with_reducible apply below_drewN) | (with_reducible refine Below.trans ?_ (Below.mono (by assumption) ?_)) | omega | (simp; done) | (simp; omega)))
  clear hl ct cm cb hi0 hz0 hz1 hz2 hws hvs
  go_enter Tryz.func124, Tryz.ntmps124
  go_wp2_with fail
  go_region_law ((refine step_copy_splice rfl (.tmp 5) (.tmp 7) 40 40 rfl 2 Tryz.underlying40 hsz _ _ 7 7 ws.length m (by rfl) (by rfl) (w.heap.size) 0 (List.replicate 7 (Value.int .i64 0)) 143 (show _ = _ from HH.out) ((ws.take 7).map (fun n => Value.int .i64 n)) HMIN.out (fun h => ⟨rfl, by obtain ⟨ad, e, hB, hc⟩ := HSRC.out h; exact ⟨ad, e, fun j v hv => (Below.cell (p := ad.add j) (show Below w.heap.size w _ from hpre) (by rw [block_of_add]; exact hB)).trans (hc j v hv)⟩⟩) HFIT.out HONE.out (w.heap.size) _ (Below.refl _ _) (Nat.le_refl _) ?_; intro wc hC hBc))
  have hBw : Below w.heap.size w wc := (Below.drew hpre).trans ((show Below (w.heap.size) (w.alloc (.cells #[.int .i64 0, .int .i64 0, .int .i64 0, .int .i64 0, .int .i64 0, .int .i64 0, .int .i64 0] 143)).drew wc from hBc).mono (by first | omega | simp))
  have hC2 := hC.out
  rw [first7] at hC2
  have d0 : wc.cell? ⟨w.heap.size, 0, none⟩ = some (.int .i64 (av ws 0)) := by simp [World.cell?, hC2]
  have d1 : wc.cell? ⟨w.heap.size, 1, none⟩ = some (.int .i64 (av ws 1)) := by simp [World.cell?, hC2]
  have d2 : wc.cell? ⟨w.heap.size, 2, none⟩ = some (.int .i64 (av ws 2)) := by simp [World.cell?, hC2]
  have d3 : wc.cell? ⟨w.heap.size, 3, none⟩ = some (.int .i64 (av ws 3)) := by simp [World.cell?, hC2]
  have d4 : wc.cell? ⟨w.heap.size, 4, none⟩ = some (.int .i64 (av ws 4)) := by simp [World.cell?, hC2]
  have d5 : wc.cell? ⟨w.heap.size, 5, none⟩ = some (.int .i64 (av ws 5)) := by simp [World.cell?, hC2]
  have d6 : wc.cell? ⟨w.heap.size, 6, none⟩ = some (.int .i64 (av ws 6)) := by simp [World.cell?, hC2]
  obtain ⟨⟨o0, o1, o2⟩, p0, p1, p2⟩ := KS.out _ hBw
  have HBW := hidd hBw
  have hwz : w.heap.size < wc.heap.size := by have := hBc.size; simp at this; omega
  clear hC hC2 hBc hBw hpre HH HSRC HMIN HFIT HONE e7 hsz
  go_wp2_with fail
  refine (CT.out _ HBW.out).mono ?_
  rintro e w2 ⟨rfl, hb2⟩
  have hB2 : Below w.heap.size w w2 := below_step HBW.out hb2
  have HB2 := hidd hB2
  obtain ⟨bc, bf⟩ := bcell hb2
  have hz2 : w.heap.size < w2.heap.size := by have := hb2.size; omega
  clear d0 d1 d2 d3 d4 d5 d6 o0 o1 o2 p0 p1 p2 hb2 hB2 bc bf
  obtain ⟨W3, hW3⟩ : ∃ W3 : World, w2 = W3 := ⟨_, rfl⟩
  have hB3 : Below w.heap.size w W3 := by rw [← hW3]; have q := HB2.out; (repeat' (first | (with_reducible exact Below.refl _ _) | (with_reducible assumption) | (with_reducible apply Below.setCell) | (with_reducible apply Below.alloc) | (with_reducible apply Below.drew) | (with_reducible apply below_drewN) | (with_reducible refine Below.trans ?_ (Below.mono (by assumption) ?_)) | omega | (simp; done) | (simp; omega)))
  obtain ⟨⟨o0, o1, o2⟩, p0, p1, p2⟩ := KS.out _ hB3
  have hz3 : w2.heap.size ≤ W3.heap.size := by rw [← hW3]; simp
  have hz4 : w.heap.size < W3.heap.size := by omega
  have hps : ps < W3.heap.size := Nat.lt_of_lt_of_le hs hB3.size
  have hpo : po < W3.heap.size := Nat.lt_of_lt_of_le ho hB3.size
  have KEEP := hidd (fun (W : World) (hb : Below W3.heap.size W3 W) => (show W.cell? ⟨ps, 0, none⟩ = some (.func (.func fm) #[] #[]) ∧ W.cell? ⟨ps, 1, none⟩ = some (.func (.func fo) #[] co) ∧ W.cell? ⟨po, 0, none⟩ = some (.int .i64 c) ∧ W.cell? ⟨po, 1, none⟩ = some (.int .i64 t) ∧ W.cell? ⟨po, 2, none⟩ = some (.slice A ws.length m) from ⟨(hb.cell (p := ⟨ps, 0, none⟩) hps).trans p0, (hb.cell (p := ⟨ps, 1, none⟩) hps).trans p1, (hb.cell (p := ⟨po, 0, none⟩) hpo).trans o0, (hb.cell (p := ⟨po, 1, none⟩) hpo).trans o1, (hb.cell (p := ⟨po, 2, none⟩) hpo).trans o2⟩))
  have HB3 := hidd hB3
  have HL3 := hidd (fun W (hb : Below W3.heap.size W3 W) => HL.out.below (below_step hB3 hb))
  have HBW3 := hidd (fun W (hb : Below W3.heap.size W3 W) => below_step hB3 hb)
  have HW3 := hidd hW3
  clear hB3 hW3
  cases M
  · go_wp2_with fail
    rw [HW3.out]
    refine wp_region_held_drew (S := fun W => W.cell? ⟨ps, 0, none⟩ = some (.func (.func fm) #[] #[]) ∧ W.cell? ⟨ps, 1, none⟩ = some (.func (.func fo) #[] co) ∧ W.cell? ⟨po, 0, none⟩ = some (.int .i64 c) ∧ W.cell? ⟨po, 1, none⟩ = some (.int .i64 t) ∧ W.cell? ⟨po, 2, none⟩ = some (.slice A ws.length m)) (by kernel_rfl) (by exact KEEP.out _ (Below.drew (Below.refl _ _))) (fun hHeld => ?_)
    refine wpAnyH_take (i := 0) (v := ?v0) (by (conv => lhs; simp only [List.getElem?_toArray, List.getElem?_cons_succ, List.getElem?_cons_zero])) (by kernel_rfl) (by kernel_rfl) (by kernel_rfl) ?hQ (Or.inl ⟨by rfl, ?hy0⟩) (by assumption) ?rest0
    case hQ => exact fun _ _ _ h => h
    case hy0 => (intro w hSw; (try dsimp only at hSw); go_simp; try (with_reducible rfl))
    try simp only [Act.put, List.setIfInBounds_toArray, List.set_cons_zero, List.set_cons_succ]
    refine wpAnyH_take (i := 1) (v := ?v1) (by (conv => lhs; simp only [List.getElem?_toArray, List.getElem?_cons_succ, List.getElem?_cons_zero])) (by kernel_rfl) (by kernel_rfl) (by kernel_rfl) ?hQ (Or.inl ⟨by rfl, ?hy1⟩) (by assumption) ?rest1
    case hQ => exact fun _ _ _ h => h
    case hy1 => (intro w hSw; (try dsimp only at hSw); go_simp; try (with_reducible rfl))
    try simp only [Act.put, List.setIfInBounds_toArray, List.set_cons_zero, List.set_cons_succ]
    refine wpAnyH_take (i := 2) (v := ?v2) (by (conv => lhs; simp only [List.getElem?_toArray, List.getElem?_cons_succ, List.getElem?_cons_zero])) (by kernel_rfl) (by kernel_rfl) (by kernel_rfl) ?hQ (Or.inl ⟨by rfl, ?hy2⟩) (by assumption) ?rest2
    case hQ => exact fun _ _ _ h => h
    case hy2 => (intro w hSw; (try dsimp only at hSw); go_simp; try (with_reducible rfl))
    try simp only [Act.put, List.setIfInBounds_toArray, List.set_cons_zero, List.set_cons_succ]
    refine wpAnyH_ready (rs := [3]) (by kernel_rfl) (by simp) ?_
    refine AllReadyH.cons (by (conv => lhs; simp only [List.getElem?_toArray, List.getElem?_cons_succ, List.getElem?_cons_zero])) (fun K hK => ?_) AllReadyH.nil
    go_simp
    (with_reducible refine Calls.mono (CM.out _ (HBW3.out _ (by first | exact Below.drew (Below.refl _ _) | exact Below.refl _ _))) ?_); rintro E1 v1 ⟨rfl, l1⟩; have cum1 : Below W3.heap.size W3 v1 := (by first | exact below_step (Below.drew (Below.refl _ _)) l1 | exact below_step (Below.refl _ _) l1)
    refine hK.out _ _ (by (try dsimp only); exact KEEP.out _ cum1) (fun hHeld1 => ?_)
    clear hK K
    try simp only [Act.put, List.setIfInBounds_toArray, List.set_cons_zero, List.set_cons_succ]
    refine wpAnyH_take (i := 4) (v := ?v4) (by (conv => lhs; simp only [List.getElem?_toArray, List.getElem?_cons_succ, List.getElem?_cons_zero])) (by kernel_rfl) (by kernel_rfl) (by kernel_rfl) ?hQ (Or.inl ⟨by rfl, ?hy4⟩) (by assumption) ?rest4
    case hQ => exact fun _ _ _ h => h
    case hy4 => (intro w hSw; (try dsimp only at hSw); go_simp; try (with_reducible rfl))
    try simp only [Act.put, List.setIfInBounds_toArray, List.set_cons_zero, List.set_cons_succ]
    refine wpAnyH_take (i := 5) (v := undef) (by (conv => lhs; simp only [List.getElem?_toArray, List.getElem?_cons_succ, List.getElem?_cons_zero])) (by kernel_rfl) (by kernel_rfl) (by kernel_rfl) ?hQ (Or.inr ⟨by rfl, rfl⟩) (by assumption) ?_
    case hQ => exact fun _ _ _ h => h
    try simp only [Act.put, List.setIfInBounds_toArray, List.set_cons_zero, List.set_cons_succ]
    refine wpAnyH_take (i := 6) (v := undef) (by (conv => lhs; simp only [List.getElem?_toArray, List.getElem?_cons_succ, List.getElem?_cons_zero])) (by kernel_rfl) (by kernel_rfl) (by kernel_rfl) ?hQ (Or.inr ⟨by rfl, rfl⟩) (by assumption) ?_
    case hQ => exact fun _ _ _ h => h
    try simp only [Act.put, List.setIfInBounds_toArray, List.set_cons_zero, List.set_cons_succ]
    refine wpAnyH_take (i := 7) (v := undef) (by (conv => lhs; simp only [List.getElem?_toArray, List.getElem?_cons_succ, List.getElem?_cons_zero])) (by kernel_rfl) (by kernel_rfl) (by kernel_rfl) ?hQ (Or.inr ⟨by rfl, rfl⟩) (by assumption) ?_
    case hQ => exact fun _ _ _ h => h
    try simp only [Act.put, List.setIfInBounds_toArray, List.set_cons_zero, List.set_cons_succ]
    refine wpAnyH_take (i := 8) (v := undef) (by (conv => lhs; simp only [List.getElem?_toArray, List.getElem?_cons_succ, List.getElem?_cons_zero])) (by kernel_rfl) (by kernel_rfl) (by kernel_rfl) ?hQ (Or.inr ⟨by rfl, rfl⟩) (by assumption) ?_
    case hQ => exact fun _ _ _ h => h
    try simp only [Act.put, List.setIfInBounds_toArray, List.set_cons_zero, List.set_cons_succ]
    refine wpAnyH_take (i := 9) (v := undef) (by (conv => lhs; simp only [List.getElem?_toArray, List.getElem?_cons_succ, List.getElem?_cons_zero])) (by kernel_rfl) (by kernel_rfl) (by kernel_rfl) ?hQ (Or.inr ⟨by rfl, rfl⟩) (by assumption) ?_
    case hQ => exact fun _ _ _ h => h
    try simp only [Act.put, List.setIfInBounds_toArray, List.set_cons_zero, List.set_cons_succ]
    refine wpAnyH_take (i := 10) (v := undef) (by (conv => lhs; simp only [List.getElem?_toArray, List.getElem?_cons_succ, List.getElem?_cons_zero])) (by kernel_rfl) (by kernel_rfl) (by kernel_rfl) ?hQ (Or.inr ⟨by rfl, rfl⟩) (by assumption) ?_
    case hQ => exact fun _ _ _ h => h
    try simp only [Act.put, List.setIfInBounds_toArray, List.set_cons_zero, List.set_cons_succ]
    refine wpAnyH_take (i := 11) (v := ?v11) (by (conv => lhs; simp only [List.getElem?_toArray, List.getElem?_cons_succ, List.getElem?_cons_zero])) (by kernel_rfl) (by kernel_rfl) (by kernel_rfl) ?hQ (Or.inl ⟨by rfl, ?hy11⟩) (by assumption) ?rest11
    case hQ => exact fun _ _ _ h => h
    case hy11 => (intro w hSw; (try dsimp only at hSw); go_simp; try (with_reducible rfl))
    try simp only [Act.put, List.setIfInBounds_toArray, List.set_cons_zero, List.set_cons_succ]
    refine wpAnyH_ready (rs := [12]) (by kernel_rfl) (by simp) ?_
    refine AllReadyH.cons (by (conv => lhs; simp only [List.getElem?_toArray, List.getElem?_cons_succ, List.getElem?_cons_zero])) (fun K hK => ?_) AllReadyH.nil
    go_simp
    go_at_call 88; refine (need_either _ _).mono ?_; rintro E4 v4 (⟨rfl, rfl, hF⟩ | ⟨rfl, rfl⟩); rotate_left; exact ⟨rfl, HBW3.out _ cum1, .inr ⟨rfl, rfl⟩⟩
    refine hK.out _ _ (by (try dsimp only); exact KEEP.out _ cum1) (fun hHeld2 => ?_)
    clear hK K
    try simp only [Act.put, List.setIfInBounds_toArray, List.set_cons_zero, List.set_cons_succ]
    refine wpAnyH_done (by kernel_rfl) ?_ _
    exact hF.out.elim
  · cases SS
    · go_wp2_with fail
      rw [HW3.out]
      go_region_held (fun W => W.cell? ⟨ps, 0, none⟩ = some (.func (.func fm) #[] #[]) ∧ W.cell? ⟨ps, 1, none⟩ = some (.func (.func fo) #[] co) ∧ W.cell? ⟨po, 0, none⟩ = some (.int .i64 c) ∧ W.cell? ⟨po, 1, none⟩ = some (.int .i64 t) ∧ W.cell? ⟨po, 2, none⟩ = some (.slice A ws.length m))
        ((first | exact KEEP.out _ cum3 | exact KEEP.out _ cum2 | exact KEEP.out _ cum1 | exact KEEP.out _ (Below.refl _ _) | exact KEEP.out _ (Below.drew (Below.refl _ _))))
        ((first
          | ((with_reducible refine Calls.mono (CM.out _ (HBW3.out _ (by first | exact Below.drew (Below.refl _ _) | exact Below.refl _ _))) ?_); rintro E1 v1 ⟨rfl, l1⟩; have cum1 : Below W3.heap.size W3 v1 := (by first | exact below_step (Below.drew (Below.refl _ _)) l1 | exact below_step (Below.refl _ _) l1))
          | ((with_reducible refine Calls.mono (CB.out (by first | exact rfl | exact trivial) _ (HBW3.out _ cum1)) ?_); rintro E2 v2 ⟨l2, A2, k2, rfl, hl2⟩; have cum2 : Below W3.heap.size W3 v2 := (below_step cum1 l2); have HL2 := hidd (hl2.to (p' := (· < v2.heap.size)) (fun q hq => ⟨hq.2, rfl⟩)); clear hl2)
          | (go_at_call 101; refine (CS.out A2 k2 _ HL2.out (HL3.out _ cum2)).mono ?_; rintro E3 v3 ⟨rfl, l3⟩; have cum3 : Below W3.heap.size W3 v3 := (below_step cum2 l3))
          | (go_at_call 88; refine (need_either _ _).mono ?_; rintro E4 v4 (⟨rfl, rfl, hF⟩ | ⟨rfl, rfl⟩); rotate_left; exact ⟨rfl, HBW3.out _ cum3, .inr ⟨rfl, rfl⟩⟩)))
      all_goals exact hF.out.elim
    · go_wp2_with fail
      rw [HW3.out]
      go_region_held (fun W => W.cell? ⟨ps, 0, none⟩ = some (.func (.func fm) #[] #[]) ∧ W.cell? ⟨ps, 1, none⟩ = some (.func (.func fo) #[] co) ∧ W.cell? ⟨po, 0, none⟩ = some (.int .i64 c) ∧ W.cell? ⟨po, 1, none⟩ = some (.int .i64 t) ∧ W.cell? ⟨po, 2, none⟩ = some (.slice A ws.length m))
        ((first | exact KEEP.out _ cum3 | exact KEEP.out _ cum2 | exact KEEP.out _ cum1 | exact KEEP.out _ (Below.refl _ _) | exact KEEP.out _ (Below.drew (Below.refl _ _))))
        ((first
          | ((with_reducible refine Calls.mono (CM.out _ (HBW3.out _ (by first | exact Below.drew (Below.refl _ _) | exact Below.refl _ _))) ?_); rintro E1 v1 ⟨rfl, l1⟩; have cum1 : Below W3.heap.size W3 v1 := (by first | exact below_step (Below.drew (Below.refl _ _)) l1 | exact below_step (Below.refl _ _) l1))
          | ((with_reducible refine Calls.mono (CB.out (by first | exact rfl | exact trivial) _ (HBW3.out _ cum1)) ?_); rintro E2 v2 ⟨l2, A2, k2, rfl, hl2⟩; have cum2 : Below W3.heap.size W3 v2 := (below_step cum1 l2); have HL2 := hidd (hl2.to (p' := (· < v2.heap.size)) (fun q hq => ⟨hq.2, rfl⟩)); clear hl2)
          | (go_at_call 101; refine (CS.out A2 k2 _ HL2.out (HL3.out _ cum2)).mono ?_; rintro E3 v3 ⟨rfl, l3⟩; have cum3 : Below W3.heap.size W3 v3 := (below_step cum2 l3))
          | (go_at_call 88; refine (need_yes _ _).mono ?_; rintro E4 v4 ⟨rfl, rfl⟩)))
      all_goals go_wp2_with fail
      all_goals go_ret
      all_goals exact ⟨HBW3.out _ cum3, .inl ⟨rfl, rfl⟩⟩
theorem enters_heard1Y : ∀ args w, (callFunc 124 args).run Tryz.prog w = .ok (.enter 124 args) w := fun args w => by simp [callFunc, Tryz.func124, Tryz.f124, mark]
set_option maxHeartbeats 2000000 in
theorem heardY_any (fm fo ft : Nat) (em : ∀ args w, (callFunc fm args).run Tryz.prog w = .ok (.enter fm args) w) (eo : ∀ args w, (callFunc fo args).run Tryz.prog w = .ok (.enter fo args) w) (et : ∀ args w, (callFunc ft args).run Tryz.prog w = .ok (.enter ft args) w)
    (co : Array Value) (M : Bool) (a b : Int) (vs : List Int) (hvs : vs.length ≤ 7) (x : Int) (c t : Int) (A : Option Addr) (ws : List Int) (m : Nat) (hws : ws.length ≤ 9223372036854775807) (w : World) (hl : LieQ wdV 1 w (· < w.heap.size) A ws)
    (ct : ∀ W, Below w.heap.size w W → Calls Tryz.prog ft #[.agg #[.int .i64 (av ws 0), .int .i64 (av ws 1), .int .i64 (av ws 2), .int .i64 (av ws 3), .int .i64 (av ws 4), .int .i64 (av ws 5), .int .i64 (av ws 6)]] W fun e w' => e = .returned (.int .i64 x) ∧ Below W.heap.size W w')
    (cm : ∀ W, Below w.heap.size w W → Calls Tryz.prog fm #[.int .i64 x] W fun e w' => e = .returned (.bool M) ∧ Below W.heap.size W w')
    (cb : M = true → ∀ W, Below w.heap.size w W → Calls Tryz.prog fo (#[.int .i64 x] ++ co) W (ObjEnd a b vs W)) :
    Calls Tryz.prog 65 #[.agg #[.func (.func fm) #[] #[], .func (.func fo) #[] co, .func (.func ft) #[] #[]], .agg #[.int .i64 c, .int .i64 t, .slice A ws.length m]] w (HeardY (M && sameB a b vs c t ws) x w) := by
  have hmf : ∀ (fn : Fn) (first cap : Array Value) (w : World), (Instr.makeFunc fn first cap).run Tryz.prog w = .ok (.func fn first cap) w := fun _ _ _ _ => rfl
  obtain ⟨w0, hw0⟩ : ∃ w0, ((w.alloc (.cells #[.func (.func fm) #[] #[], .func (.func fo) #[] co, .func (.func ft) #[] #[]] 117)).alloc (.cells #[.int .i64 c, .int .i64 t, .slice A ws.length m] 42)) = w0 := ⟨_, rfl⟩
  have hs0 : w0.heap.size = w.heap.size + 2 := by rw [← hw0]; simp
  have hb0 : Below w.heap.size w w0 := by rw [← hw0]; (repeat' (first | (with_reducible exact Below.refl _ _) | (with_reducible assumption) | (with_reducible apply Below.setCell) | (with_reducible apply Below.alloc) | (with_reducible apply Below.drew) | (with_reducible apply below_drewN) | (with_reducible refine Below.trans ?_ (Below.mono (by assumption) ?_)) | omega | (simp; done) | (simp; omega)))
  have d0 : w0.cell? ⟨w.heap.size, 0, none⟩ = some (.func (.func fm) #[] #[]) := by rw [← hw0]; simp [go_sem]
  have d1 : w0.cell? ⟨w.heap.size, 1, none⟩ = some (.func (.func fo) #[] co) := by rw [← hw0]; simp [go_sem]
  have d2 : w0.cell? ⟨w.heap.size, 2, none⟩ = some (.func (.func ft) #[] #[]) := by rw [← hw0]; simp [go_sem]
  have d3 : w0.cell? ⟨w.heap.size + 1, 0, none⟩ = some (.int .i64 c) := by rw [← hw0]; simp [go_sem]
  have d4 : w0.cell? ⟨w.heap.size + 1, 1, none⟩ = some (.int .i64 t) := by rw [← hw0]; simp [go_sem]
  have d5 : w0.cell? ⟨w.heap.size + 1, 2, none⟩ = some (.slice A ws.length m) := by rw [← hw0]; simp [go_sem]
  have ch := hidd (toldY_any 124 enters_heard1Y #[.pointer (some ⟨w.heap.size + 1, 0, none⟩), .pointer (some ⟨w.heap.size, 0, none⟩)] w0 (fun x' _ => (M && sameB a b vs c t ws) = true ∧ x' = x) (fun k => k = 171 ∧ (M && sameB a b vs c t ws) = false)
    (fun _ _ _ _ _ _ h => h)
    (fun W hW hsz => (heard1Y_any fm fo ft em eo et co M a b vs hvs x c t A ws m hws (w.heap.size + 1) w.heap.size W (by omega) (by omega) ((hW.cell (p := ⟨w.heap.size + 1, 0, none⟩) (by rw [hs0]; simp)).trans d3) ((hW.cell (p := ⟨w.heap.size + 1, 1, none⟩) (by rw [hs0]; simp)).trans d4) ((hW.cell (p := ⟨w.heap.size + 1, 2, none⟩) (by rw [hs0]; simp)).trans d5) ((hW.cell (p := ⟨w.heap.size, 0, none⟩) (by rw [hs0]; simp)).trans d0) ((hW.cell (p := ⟨w.heap.size, 1, none⟩) (by rw [hs0]; simp)).trans d1) ((hW.cell (p := ⟨w.heap.size, 2, none⟩) (by rw [hs0]; simp)).trans d2) ((hl.below hb0).below hW)
      (fun X hX => ct X (below_step (hb0.trans (hW.mono hb0.size)) hX)) (fun X hX => cm X (below_step (hb0.trans (hW.mono hb0.size)) hX)) (fun hM X hX => cb hM X (below_step (hb0.trans (hW.mono hb0.size)) hX))).mono fun e w' ⟨h1, h2⟩ => ⟨h1, by
      rcases h2 with ⟨e1, e2⟩ | ⟨e1, e2⟩
      · exact .inl ⟨x, e2, e1, rfl⟩
      · exact .inr ⟨171, e2, rfl, e1⟩⟩))
  have HB0 := hidd hb0
  have HW0 := hidd hw0
  have HS0 := hidd hs0
  generalize (M && sameB a b vs c t ws) = g at *
  clear ct cm cb hs0 hb0 hw0 d0 d1 d2 d3 d4 d5 hl
  go_enter Tryz.func65, Tryz.ntmps65
  go_wp2_with fail
  rw [HW0.out]
  refine ch.out.mono ?_
  rintro e w1 ⟨hb1, h⟩
  have HB1 := hidd (below_step HB0.out hb1)
  clear hb1
  rcases h with ⟨x', rfl, hg, rfl⟩ | ⟨k, rfl, rfl, hg⟩
  · have HG := hidd hg
    clear hg
    go_wp2_with fail
    go_ret2
    exact ⟨by have q := HB1.out; (repeat' (first | (with_reducible exact Below.refl _ _) | (with_reducible assumption) | (with_reducible apply Below.setCell) | (with_reducible apply Below.alloc) | (with_reducible apply Below.drew) | (with_reducible apply below_drewN) | (with_reducible refine Below.trans ?_ (Below.mono (by assumption) ?_)) | omega | (simp; done) | (simp; omega))), .inl ⟨HG.out, rfl⟩⟩
  · have HG := hidd hg
    clear hg
    go_wp2_with fail
    go_ret2
    exact ⟨by have q := HB1.out; (repeat' (first | (with_reducible exact Below.refl _ _) | (with_reducible assumption) | (with_reducible apply Below.setCell) | (with_reducible apply Below.alloc) | (with_reducible apply Below.drew) | (with_reducible apply below_drewN) | (with_reducible refine Below.trans ?_ (Below.mono (by assumption) ?_)) | omega | (simp; done) | (simp; omega))), .inr ⟨HG.out, rfl⟩⟩
end Go.Proofs.YtappmacnoopmkaaGreat
