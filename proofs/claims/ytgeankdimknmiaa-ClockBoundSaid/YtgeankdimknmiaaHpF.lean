/- Heaps: an item rises, sinks, settles. -/
import Derived.Test.YtgeankdimknmiaaHpE
namespace Go.Proofs.Ytgeankdimknmiaa.Hp
set_option linter.unusedVariables false
open Go.RowKit Go.Maps Go.Sort Go.Proofs.Ytgeankdimknmiaa.Tp

/-- what rising and sinking keep: of the heap that stood at the start, with the item that stood at n now at m. -/
structure Step (w : World) (h mb : Nat) (v : Value) (L : List It) (T : Int) (x : It) (w' : World) (L' : List It) (m : Nat) : Prop where
  hp : ∃ D', HpN w' h mb v L' T D' m
  off : Off L' m
  perm : L'.Perm L
  lt : m < L'.length
  it : gI L' m = x
  sav : Sav (Two mb v) w w'
theorem Step.len {w : World} {h mb : Nat} {v : Value} {L : List It} {T : Int} {x : It} {w' : World} {L' : List It} {m : Nat} (s : Step w h mb v L T x w' L' m) : L'.length = L.length := s.perm.length_eq
theorem Step.below {w : World} {h mb : Nat} {v : Value} {L : List It} {T : Int} {x : It} {w' w2 : World} {L' : List It} {m : Nat} (s : Step w h mb v L T x w' L' m) (hb : Below w'.heap.size w' w2) : Step w h mb v L T x w2 L' m := by
  obtain ⟨D', hp⟩ := s.hp
  exact ⟨⟨D', hp.keep hb⟩, s.off, s.perm, s.lt, s.it, s.sav.tr (Sav.of hb)⟩
set_option maxHeartbeats 4000000 in
theorem rise_any {h mb : Nat} {v : Value} {L : List It} {T : Int} {D : DataW Unit} (n : Nat) (hn : n < L.length) (w : World) (H : HpN w h mb v L T D n) (hoff : Off L n) :
    Calls Try.prog 58 #[.pointer (some ⟨h, 0, none⟩), .int .i64 (n : Int)] w fun e w' => ∃ (L' : List It) (m : Nat), e = .returned (.int .i64 (m : Int)) ∧ Step w h mb v L T (gI L n) w' L' m ∧ (1 ≤ m → Ord L' m) := by
  have S0 : Hid (Step w h mb v L T (gI L n) w L n) := hidd ⟨⟨D, H⟩, hoff, List.Perm.refl _, hn, rfl, Sav.refl _ _⟩
  have lm := H.lm
  clear H hoff
  generalize gI L n = x at *
  go_enter Try.func58, Try.ntmps58
  go_wp2_with fail
  refine wp_scope_straight ?_
  go_wp2_with fail
  refine wp_label ?_
  simp only [Exit.then]
  go_at_K
  go_wp2_with fail
  go_loopg [1] n (fun gk s1 wr => ∃ (L' : List It) (m : Nat), m ≤ gk ∧ s1 = .int .i64 (m : Int) ∧ Step w h mb v L T x wr L' m)
  case atStart => exact ⟨L, n, Nat.le_refl _, rfl, S0.out⟩
  case round =>
    obtain ⟨L', m, hg, rfl, hS⟩ := hrel
    have hlen := hS.len
    have hlt := hS.lt
    obtain ⟨D', hN⟩ := hS.hp
    have HS := hidd hS
    by_cases h1 : 1 ≤ m
    · have z1 : (0 : Int) < (m : Int) := by omega
      have z2 : IntKind.i64.wrap ((m : Int) - 1) = ((m - 1 : Nat) : Int) := by rw [IntKind.wrap_i64]; omega
      have hp : (m - 1) / 2 < L'.length := by omega
      have z3 : ((m - 1 : Nat) : Int).tdiv 2 = (((m - 1) / 2 : Nat) : Int) := by rw [Int.tdiv_eq_ediv_of_nonneg (by omega)]; omega
      have cA := hidd (isAhead_any wr hN.at_ hN.ok m ((m - 1) / 2) hlt hp (by have := hN.lm; omega))
      by_cases hl : Lt (gI L' m) (gI L' ((m - 1) / 2))
      · rw [decide_eq_true hl] at cA
        have cM := hidd (fun W H => move_any (h := h) (mb := mb) (v := v) (L := L') (T := T) (D := D') m ((m - 1) / 2) (by omega) hlt hp W H)
        have hup := hidd (hS.off.up hN.ok.pos h1 hlt hl)
        have HN := hidd hN
        clear hS hN hl
        go_wp2_with fail
        refine cA.out.mono ?_
        rintro e w1 ⟨rfl, hb1⟩
        have HB1 := hidd hb1
        clear hb1
        go_wp2_with fail
        refine (cM.out _ (HN.out.keep HB1.out)).mono ?_
        rintro e w2 ⟨rfl, hN2, hS2⟩
        have HN2 := hidd hN2
        have HS2 := hidd hS2
        clear hN2 hS2
        go_wp2_with fail
        go_roundg (gk - 1)
        case measure => omega
        case rel =>
          refine ⟨swp L' m ((m - 1) / 2), (m - 1) / 2, by omega, rfl, ?_⟩
          refine ⟨HN2.out, hup.out, (swp_perm hlt hp).trans HS.out.perm, by rw [swp_len]; exact hp, ?_, (HS.out.below HB1.out).sav.tr HS2.out⟩
          rw [gI_swp hlt hp, if_pos rfl]
          exact HS.out.it
      · rw [decide_eq_false hl] at cA
        have HL := hidd hl
        clear hS hN hl
        go_wp2_with fail
        refine cA.out.mono ?_
        rintro e w1 ⟨rfl, hb1⟩
        have HB1 := hidd hb1
        clear hb1
        go_wp2_with fail
        (try rw [Exit.noGoto_ret])
        go_ret
        exact ⟨L', m, rfl, HS.out.below HB1.out, fun _ => HL.out⟩
    · have z1 : ¬ (0 : Int) < (m : Int) := by omega
      clear hS hN
      go_wp2_with fail
      (try rw [Exit.noGoto_ret])
      go_ret
      exact ⟨L', m, rfl, HS.out, fun q => absurd q h1⟩
def und (L : List It) (n : Nat) : Nat := if 2 * n + 2 < L.length ∧ Lt (gI L (2 * n + 2)) (gI L (2 * n + 1)) then 2 * n + 2 else 2 * n + 1
theorem und_one (L : List It) (n : Nat) : und L n = 2 * n + 1 ∨ und L n = 2 * n + 2 := by unfold und; split <;> omega
theorem und_least {L : List It} {n : Nat} (hP : PosD L) : ∀ c, 1 ≤ c → c < L.length → (c - 1) / 2 = n → Le (gI L (und L n)) (gI L c) := fun c c1 c2 c3 => by
  have hc : c = 2 * n + 1 ∨ c = 2 * n + 2 := by omega
  unfold und
  by_cases h : 2 * n + 2 < L.length ∧ Lt (gI L (2 * n + 2)) (gI L (2 * n + 1))
  · rw [if_pos h]
    rcases hc with rfl | rfl
    · exact le_of_lt h.2
    · exact le_refl _
  · rw [if_neg h]
    rcases hc with rfl | rfl
    · exact le_refl _
    · exact fun q => h ⟨c2, q⟩
set_option maxHeartbeats 4000000 in
theorem sink1_any {h mb : Nat} {v : Value} {L : List It} {T : Int} {D : DataW Unit} (n p q : Nat) (hn : n < L.length) (hm : L.length ≤ 1000000) (w : World) (H : HpAt w h mb v L T D) (hk : OkL L) (hp : w.cell? ⟨p, 0, none⟩ = some (.pointer (some ⟨h, 0, none⟩))) (hq : w.cell? ⟨q, 0, none⟩ = some (.int .i64 (n : Int))) :
    Calls Try.prog 82 #[.pointer (some ⟨q, 0, none⟩), .pointer (some ⟨p, 0, none⟩)] w fun e w' => e = .returned (.tuple #[.int .i64 (und L n : Int), .bool (decide (und L n < L.length))]) ∧ Below w.heap.size w w' := by
  obtain ⟨g, k, hv, _, hg, hlk, _, _, _⟩ := OwnL.form H.own (by omega)
  have hpl : p < w.heap.size := block_lt_of_cell hp
  have hql : q < w.heap.size := block_lt_of_cell hq
  have c1 := H.c1
  rw [hv] at c1
  have hh := H.lt
  have cA := hidd (fun (h2 : 2 * n + 2 < L.length) => isAhead_any w H hk (2 * n + 2) (2 * n + 1) h2 (by omega) hm)
  have hU : Hid (und L n = if 2 * n + 2 < L.length ∧ Lt (gI L (2 * n + 2)) (gI L (2 * n + 1)) then 2 * n + 2 else 2 * n + 1) := rfl
  clear H hk
  generalize und L n = U at *
  obtain ⟨t1, ht1⟩ : ∃ t, 2 * n + 1 = t := ⟨_, rfl⟩
  obtain ⟨t2, ht2⟩ : ∃ t, 2 * n + 2 = t := ⟨_, rfl⟩
  obtain ⟨t0, ht0⟩ : ∃ t, 2 * n = t := ⟨_, rfl⟩
  rw [ht1, ht2] at hU cA
  have w1 : IntKind.i64.wrap (2 * (n : Int)) = (t0 : Int) := by rw [IntKind.wrap_i64]; omega
  have w2 : IntKind.i64.wrap ((t0 : Int) + 1) = (t1 : Int) := by rw [IntKind.wrap_i64]; omega
  have w3 : IntKind.i64.wrap ((t1 : Int) + 1) = (t2 : Int) := by rw [IntKind.wrap_i64]; omega
  have hT := hidd (show t2 = t1 + 1 by omega)
  clear ht0 ht1 ht2
  by_cases h2 : t2 < L.length
  · have z2 : (t2 : Int) < (L.length : Int) := by omega
    have cA2 := hidd (cA.out h2)
    by_cases hl : Lt (gI L t2) (gI L t1)
    · rw [decide_eq_true hl] at cA2
      have eU : U = t2 := by rw [hU.out, if_pos ⟨h2, hl⟩]
      subst eU
      have zd : decide (U < L.length) = true := decide_eq_true h2
      rw [zd]
      clear hU cA hl zd
      generalize L.length = N at *
      go_enter Try.func82, Try.ntmps82
      go_wp2_with fail
      refine cA2.out.mono ?_
      rintro e w' ⟨rfl, hb⟩
      obtain ⟨bc, bf⟩ := bcell hb
      have hs := hb.size
      go_wp2_with fail
      go_quiet (fail)
      go_wp2_with fail
      go_ret2
      exact ⟨rfl, by (repeat' (first | (with_reducible exact Below.refl _ _) | (with_reducible assumption) | (with_reducible apply Below.setCell) | (with_reducible apply Below.alloc) | (with_reducible apply Below.drew) | (with_reducible apply below_drewN) | (with_reducible refine Below.trans ?_ (Below.mono (by assumption) ?_)) | omega | (simp; done) | (simp; omega)))⟩
    · rw [decide_eq_false hl] at cA2
      have eU : U = t1 := by rw [hU.out, if_neg (fun q => hl q.2)]
      subst eU
      have z1 : (U : Int) < (L.length : Int) := by have := hT.out; omega
      have zd : decide (U < L.length) = true := decide_eq_true (by have := hT.out; omega)
      rw [zd]
      clear hU cA hl zd
      generalize L.length = N at *
      go_enter Try.func82, Try.ntmps82
      go_wp2_with fail
      refine cA2.out.mono ?_
      rintro e w' ⟨rfl, hb⟩
      obtain ⟨bc, bf⟩ := bcell hb
      have hs := hb.size
      go_wp2_with fail
      go_quiet (fail)
      go_wp2_with fail
      go_ret2
      exact ⟨rfl, by (repeat' (first | (with_reducible exact Below.refl _ _) | (with_reducible assumption) | (with_reducible apply Below.setCell) | (with_reducible apply Below.alloc) | (with_reducible apply Below.drew) | (with_reducible apply below_drewN) | (with_reducible refine Below.trans ?_ (Below.mono (by assumption) ?_)) | omega | (simp; done) | (simp; omega)))⟩
  · have z2 : ¬ (t2 : Int) < (L.length : Int) := by omega
    have eU : U = t1 := by rw [hU.out, if_neg (fun q => h2 q.1)]
    subst eU
    clear hU cA
    generalize L.length = N at *
    go_enter Try.func82, Try.ntmps82
    go_wp2_with fail
    go_quiet (fail)
    go_wp2_with fail
    go_ret2
    exact ⟨rfl, by (repeat' (first | (with_reducible exact Below.refl _ _) | (with_reducible assumption) | (with_reducible apply Below.setCell) | (with_reducible apply Below.alloc) | (with_reducible apply Below.drew) | (with_reducible apply below_drewN) | (with_reducible refine Below.trans ?_ (Below.mono (by assumption) ?_)) | omega | (simp; done) | (simp; omega)))⟩
theorem Sav.setNew {S : Nat → Prop} {A B : World} (h : Sav S A B) {p : Addr} (hp : A.heap.size ≤ p.block) (v : Value) : Sav S A (B.setCell p v) :=
  ⟨h.os, h.tape, h.output, by simpa [World.setCell] using h.size, fun k hk hn => (Below.heap_setCell _ _ _ _ (by omega)).trans (h.block k hk hn)⟩
theorem Step.set {w : World} {h mb : Nat} {v : Value} {L : List It} {T : Int} {x : It} {w' : World} {L' : List It} {m : Nat} (s : Step w h mb v L T x w' L' m) (hh : h < w.heap.size) (hm : mb < w.heap.size) (hv : ∀ g, v.ownBlock = some g → g < w.heap.size) {q : Nat} (hq : w.heap.size ≤ q) (u : Value) : Step w h mb v L T x (w'.setCell ⟨q, 0, none⟩ u) L' m := by
  obtain ⟨D', hp⟩ := s.hp
  have hk : ∀ k, k < w.heap.size → (w'.setCell ⟨q, 0, none⟩ u).heap[k]? = w'.heap[k]? := fun k hk => Below.heap_setCell _ _ _ _ (by show k ≠ q; omega)
  refine ⟨⟨D', hp.at_.keep (fun k _ hb => hk k ?_), hp.ok, hp.ids, hp.pl, hp.sz, hp.sn, hp.lm⟩, s.off, s.perm, s.lt, s.it, s.sav.setNew hq u⟩
  rcases hb with rfl | rfl | hb
  · exact hh
  · exact hm
  · exact hv k hb
/-- what has settled. -/
structure Done (w : World) (h mb : Nat) (v : Value) (L : List It) (T : Int) (x : It) (w' : World) (L' : List It) (m : Nat) : Prop extends Step w h mb v L T x w' L' m where
  heap : Heap L'
set_option maxHeartbeats 4000000 in
theorem sink_any {h mb : Nat} {v : Value} {L : List It} {T : Int} {D : DataW Unit} (n : Nat) (hn : n < L.length) (w : World) (H : HpN w h mb v L T D n) (hoff : Off L n) (hup : 1 ≤ n → Ord L n) :
    Calls Try.prog 57 #[.pointer (some ⟨h, 0, none⟩), .int .i64 (n : Int)] w fun e w' => ∃ (L' : List It) (m : Nat), e = .returned (.int .i64 (m : Int)) ∧ Done w h mb v L T (gI L n) w' L' m := by
  have hmf : ∀ (fn : Fn) (first cap : Array Value) (w : World), (Instr.makeFunc fn first cap).run Try.prog w = .ok (.func fn first cap) w := fun _ _ _ _ => rfl
  have en : ∀ args w, (callFunc 82 args).run Try.prog w = .ok (.enter 82 args) w := fun args w => by simp [callFunc, Try.func82, Try.f82, mark]
  have S0 : Hid (Step w h mb v L T (gI L n) w L n) := hidd ⟨⟨D, H⟩, hoff, List.Perm.refl _, hn, rfl, Sav.refl _ _⟩
  have lm := H.lm
  have hlt := H.at_.lt
  have hmlt := H.at_.mlt
  have HV := hidd H.at_.vlt
  have HUP := hidd hup
  clear H hoff hup
  generalize gI L n = x at *
  go_enter Try.func57, Try.ntmps57
  go_wp2_with fail
  refine wp_scope_straight ?_
  go_wp2_with fail
  refine wp_label ?_
  simp only [Exit.then]
  go_at_K
  go_wp2_with fail
  go_loopg [6] (L.length - n) (fun gk s6 wr => ∃ (L' : List It) (m : Nat), m + gk = L.length ∧ Step w h mb v L T x wr L' m ∧ (1 ≤ m → Ord L' m) ∧ wr.cell? ⟨w.heap.size, 0, none⟩ = some (.pointer (some ⟨h, 0, none⟩)) ∧ wr.cell? ⟨w.heap.size + 1, 0, none⟩ = some (.int .i64 (m : Int)) ∧ wr.frozen? ⟨w.heap.size + 1, 0, none⟩ = false ∧ w.heap.size + 1 < wr.heap.size)
  case atStart => exact ⟨L, n, by omega, S0.out.below (by (repeat' (first | (with_reducible exact Below.refl _ _) | (with_reducible assumption) | (with_reducible apply Below.setCell) | (with_reducible apply Below.alloc) | (with_reducible apply Below.drew) | (with_reducible apply below_drewN) | (with_reducible refine Below.trans ?_ (Below.mono (by assumption) ?_)) | omega | (simp; done) | (simp; omega)))), HUP.out, by simp [go_sem], by simp [go_sem], by simp [go_sem], by simp [go_sem]⟩
  case round =>
    obtain ⟨L', m, hg, hS, hO, hb1, hb2, hb3, hb4⟩ := hrel
    have hlen := hS.len
    have hlt' := hS.lt
    obtain ⟨D', hN⟩ := hS.hp
    have hP := hN.ok.pos
    have HS := hidd hS
    have HO := hidd hO
    have hul := hidd (und_least (L := L') (n := m) hP)
    have hu1 := und_one L' m
    have cD := hidd (sink1_any m w.heap.size (w.heap.size + 1) hlt' (by have := hN.lm; omega) wr hN.at_ hN.ok hb1 hb2)
    by_cases hu : und L' m < L'.length
    · rw [decide_eq_true hu] at cD
      have cA := hidd (fun W (H : HpN W h mb v L' T D' m) => isAhead_any W H.at_ H.ok (und L' m) m hu hlt' (by have := H.lm; omega))
      have HN := hidd hN
      have hbl : w.heap.size < wr.heap.size := by omega
      by_cases hl : Lt (gI L' (und L' m)) (gI L' m)
      · rw [decide_eq_true hl] at cA
        have cM := hidd (fun W H => move_any (h := h) (mb := mb) (v := v) (L := L') (T := T) (D := D') m (und L' m) (by omega) hlt' hu W H)
        have hdn := hidd (hS.off.down hP hlt' hu (by omega) (by omega) hl (fun c q1 q2 q3 => hul.out c q1 q2 q3) hO)
        have hpm := hidd (swp_perm hlt' hu)
        have hgi : Hid (gI (swp L' m (und L' m)) (und L' m) = gI L' m) := hidd (by rw [gI_swp hlt' hu, if_pos rfl])
        clear hS hN hl hul hO
        generalize und L' m = u at *
        go_wp2_with fail
        refine cD.out.mono ?_
        rintro e w1 ⟨rfl, hx1⟩
        obtain ⟨bc, bf⟩ := bcell hx1
        have hs1 := hx1.size
        have HB1 := hidd hx1
        clear hx1
        go_wp2_with fail
        refine (cA.out _ (HN.out.keep HB1.out)).mono ?_
        rintro e w2 ⟨rfl, hx2⟩
        obtain ⟨bc2, bf2⟩ := bcell hx2
        have hs2 := hx2.size
        have HB2 := hidd hx2
        clear hx2
        have e1 : w2.cell? ⟨w.heap.size, 0, none⟩ = some (.pointer (some ⟨h, 0, none⟩)) := by rw [bc2 _ _ (by omega), bc _ _ (by omega), hb1]
        have e2 : w2.cell? ⟨w.heap.size + 1, 0, none⟩ = some (.int .i64 (m : Int)) := by rw [bc2 _ _ (by omega), bc _ _ (by omega), hb2]
        go_wp2_with fail
        refine (cM.out _ ((HN.out.keep HB1.out).keep HB2.out)).mono ?_
        rintro e w3 ⟨rfl, hN3, hS3⟩
        have hs3 := hS3.size
        have ntw : ∀ k, w.heap.size ≤ k → ¬ Two mb v k := fun k hk q => by
          rcases q with rfl | q
          · omega
          · have := HV.out k q; omega
        have d1 := (hS3.cell (p := ⟨w.heap.size, 0, none⟩) (by show w.heap.size < w2.heap.size; omega) (ntw _ (Nat.le_refl _)))
        have d2 := (hS3.cell (p := ⟨w.heap.size + 1, 0, none⟩) (by show w.heap.size + 1 < w2.heap.size; omega) (ntw _ (by show w.heap.size ≤ w.heap.size + 1; omega)))
        have d3 : w3.frozen? ⟨w.heap.size + 1, 0, none⟩ = w2.frozen? ⟨w.heap.size + 1, 0, none⟩ := World.frozen?_of_block (hS3.block (w.heap.size + 1) (by omega) (ntw _ (by omega)))
        rw [bc2 _ _ (by omega), bc _ _ (by omega), hb1] at d1
        rw [bc2 _ _ (by omega), bc _ _ (by omega), hb2] at d2
        rw [bf2 _ _ (by omega), bf _ _ (by omega), hb3] at d3
        have HN3 := hidd hN3
        have HS3 := hidd hS3
        clear hN3 hS3 bc bf bc2 bf2 hb1 hb2 hb3 ntw
        go_wp2_with fail
        go_roundg (L.length - u)
        case measure => omega
        case rel =>
          have s3 : Step w h mb v L T x w3 (swp L' m u) u := ⟨HN3.out, hdn.out.1, hpm.out.trans HS.out.perm, by rw [swp_len]; exact hu, hgi.out.trans HS.out.it, ((HS.out.below HB1.out).below HB2.out).sav.tr HS3.out⟩
          exact ⟨swp L' m u, u, by omega, s3.set hlt hmlt HV.out (by omega) _, hdn.out.2, by simp [go_sem, d1], World.cell?_setCell_same' _ _ _ (by rw [d2]; rfl), by rw [World.frozen?_setCell]; exact d3, by simp [World.setCell]; omega⟩
      · rw [decide_eq_false hl] at cA
        have HW : Hid (Heap L') := hidd (hS.off.whole hO (fun c q1 q2 q3 => le_trans (hP.at_ hlt') (hP.at_ hu) (hP.at_ q2) hl (hul.out c q1 q2 q3)))
        clear hS hN hl hul hO
        generalize und L' m = u at *
        go_wp2_with fail
        refine cD.out.mono ?_
        rintro e w1 ⟨rfl, hx1⟩
        obtain ⟨bc, bf⟩ := bcell hx1
        have hs1 := hx1.size
        have HB1 := hidd hx1
        clear hx1
        go_wp2_with fail
        refine (cA.out _ (HN.out.keep HB1.out)).mono ?_
        rintro e w2 ⟨rfl, hx2⟩
        obtain ⟨bc2, bf2⟩ := bcell hx2
        have hs2 := hx2.size
        have HB2 := hidd hx2
        clear hx2
        have e1 : w2.cell? ⟨w.heap.size, 0, none⟩ = some (.pointer (some ⟨h, 0, none⟩)) := by rw [bc2 _ _ (by omega), bc _ _ (by omega), hb1]
        have e2 : w2.cell? ⟨w.heap.size + 1, 0, none⟩ = some (.int .i64 (m : Int)) := by rw [bc2 _ _ (by omega), bc _ _ (by omega), hb2]
        go_wp2_with fail
        (try rw [Exit.noGoto_ret])
        go_ret
        exact ⟨L', m, rfl, (HS.out.below HB1.out).below HB2.out, HW.out⟩
    · rw [decide_eq_false hu] at cD
      have HW : Hid (Heap L') := hidd (hS.off.whole hO (fun c q1 q2 q3 => by
        exfalso
        have : und L' m = 2 * m + 1 := by unfold und; rw [if_neg]; rintro ⟨q, _⟩; apply hu; unfold und; split <;> omega
        omega))
      clear hS hN hul hO
      generalize und L' m = u at *
      go_wp2_with fail
      refine cD.out.mono ?_
      rintro e w1 ⟨rfl, hx1⟩
      obtain ⟨bc, bf⟩ := bcell hx1
      have hs1 := hx1.size
      have HB1 := hidd hx1
      clear hx1
      go_wp2_with fail
      (try rw [Exit.noGoto_ret])
      go_ret
      exact ⟨L', m, rfl, HS.out.below HB1.out, HW.out⟩
end Go.Proofs.Ytgeankdimknmiaa.Hp
