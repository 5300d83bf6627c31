/- Routes: what is told of them: the way, its first link, how far. -/
import Derived.Test.YtalhbjmhipiiiaaGreatRtL
namespace Go.Proofs.YtalhbjmhipiiiaaGreat.Tp
set_option linter.unusedVariables false
open Go.RowKit Go.Maps

set_option maxHeartbeats 2000000 in
theorem CloneI_any (A : Option Addr) (L : List Int) (c : Nat) (hL : L.length ≤ 1000000) (w : World) (hA : Lie intV 1 w w.heap.size A L) :
    Calls Tryz.prog 29 #[.slice A L.length c] w fun e w' => ∃ A' c', e = .returned (.slice A' L.length c') ∧ Lie intV 1 w' w'.heap.size A' L ∧ Below w.heap.size w w' := by
  obtain ⟨i0, hi, hz0, hz1, hz2⟩ := info_parts intInfo
  have q28 := hidd (fun (W : World) (a : Option Addr) (n c n' c' : Nat) => Lib.run_eql_slice_nil (P := Tryz.prog) W _ _ a n c n' c' Tryz.underlying36)
  cases A with
  | none =>
    have h0 : L.length = 0 := by
      rcases Nat.eq_zero_or_pos L.length with h | h
      · exact h
      · obtain ⟨ad, e, _⟩ := hA h; cases e
    have : L = [] := List.eq_nil_of_length_eq_zero h0
    subst this
    have q := fun W => q28.out W none 0 c 0 0
    clear hA h0
    simp only [List.length_nil]
    go_enter Tryz.func29, Tryz.ntmps29
    go_wp2_with fail
    go_ret
    exact ⟨none, 0, rfl, Lie.nil, by (repeat' (first | (with_reducible exact Below.refl _ _) | (with_reducible assumption) | (with_reducible apply Below.setCell) | (with_reducible apply Below.alloc) | (with_reducible apply Below.drew) | (with_reducible apply below_drewN) | (with_reducible refine Below.trans ?_ (Below.mono (by assumption) ?_)) | omega | (simp; done) | (simp; omega)))⟩
  | some ad =>
    have q := fun W => q28.out W (some ad) L.length c 0 0
    have hO : Hid ((w.alloc (.cells #[] 3)).ownsRow w.heap.size 3 1 (.slice (some ⟨w.heap.size, 0, none⟩) 0 0) 0 []) := hidd ⟨rfl, .inr ⟨w.heap.size, 0, #[], rfl, Nat.le_refl _, (MapKept.heap_alloc w _).1, Nat.le_refl _, Nat.zero_le _, rfl, rfl⟩⟩
    have hb1 : Below w.heap.size w (w.alloc (.cells #[] 3)) := by (repeat' (first | (with_reducible exact Below.refl _ _) | (with_reducible assumption) | (with_reducible apply Below.setCell) | (with_reducible apply Below.alloc) | (with_reducible apply Below.drew) | (with_reducible apply below_drewN) | (with_reducible refine Below.trans ?_ (Below.mono (by assumption) ?_)) | omega | (simp; done) | (simp; omega)))
    have hs1 := hA.below hb1
    have hsrc : Hid (0 < L.length → ∃ ad', some ad = some ad' ∧ ∀ j u, (rowOf intV L)[j]? = some u → (w.alloc (.cells #[] 3)).cell? (ad'.add j) = some u) := hidd (fun hl => by
      obtain ⟨a2, e2, _, hc⟩ := hs1 hl
      refine ⟨a2, e2, fun j u hj => ?_⟩
      have hjl : j < (rowOf intV L).length := (List.getElem?_eq_some_iff.1 hj).1
      rw [row_len intV_len] at hjl
      have h1 : j / 1 < L.length := by omega
      have h2 : (intV L[j / 1])[j % 1]? = some ((intV L[j / 1])[j % 1]'(by rw [intV_len]; omega)) := List.getElem?_eq_getElem _
      have h3 := row_at intV_len L (j / 1) L[j / 1] (List.getElem?_eq_getElem h1) (j % 1) _ h2
      have e4 : j / 1 * 1 + j % 1 = j := by omega
      rw [e4, hj] at h3
      have h5 := hc (j / 1) L[j / 1] (List.getElem?_eq_getElem h1) (j % 1) _ h2
      rw [e4] at h5
      rw [h5]
      exact h3.symm)
    have HL := hidd hL
    have hmax : Hid (0 + L.length ≤ maxLen) := hidd (by unfold maxLen; omega)
    have hby : Hid ((0 + L.length) * 8 ≤ 140737488355328) := hidd (by omega)
    have HB1 := hidd hb1
    have HR := hidd (row_len intV_len L)
    have HONE := hidd (rowOf_one intV_one L)
    clear hA hs1 hb1 hL
    go_enter Tryz.func29, Tryz.ntmps29
    go_wp2_with (first | (at_builtin; refine wpList_append_some rfl _ _ 36 rfl w.heap.size 3 i0 (.int .i64 0) 1 8 Tryz.underlying36 hi hz0 hz1 hz2 rfl (by decide) (.slice (some ⟨w.heap.size, 0, none⟩) 0 0) 0 [] rfl hO.out (some ad) L.length c (rowOf intV L) rfl HR.out hsrc.out HONE.out hmax.out hby.out (by simp) ?_; intro v' w1 hown' hgrow hor; have HO2 := hidd hown'; have HG := hidd hgrow; clear hown' hgrow hor) | fail)
    go_ret
    have h2 := HO2.out
    rw [Nat.zero_add, List.nil_append] at h2
    have h3 : OwnL intV 1 w1 w.heap.size 3 v' L := h2
    obtain ⟨A', c', e, _, _, hl⟩ := h3.lie intV_len
    subst e
    exact ⟨A', c', rfl, hl, HB1.out.grown HG.out (by simp) (fun k hk => by simp [Value.ownBlock] at hk; omega)⟩

/-- are both nodes there? -/
def okB (n x t : Int) : Bool := hasB n x && hasB n t
/-- the links of the way, or none. -/
def lsI (n : Int) (L : List Lk) (x t : Int) : List Int := if okB n x t = true then (if dist n L t x = 16 then [] else wayL n L t (dist n L t x) x) else []
def erI (n : Int) (L : List Lk) (x t : Int) : Int := if okB n x t = true then (if dist n L t x = 16 then 200 else 0) else 4
def Ready (n x t : Int) (done : Bool) : Prop := done = true ∨ okB n x t = false
/-- what stands behind a call. -/
def Post (B r bw m : Nat) (n : Int) (L : List Lk) (done : Bool) (x t : Int) (w w' : World) : Prop :=
  ∃ done', RoutesAt w' B r bw m n L done' ∧ Ready n x t done' ∧ Below B w w' ∧ (Ready n x t done → Below w.heap.size w w') ∧ (done = true → done' = true)
theorem Post.then {B r bw m : Nat} {n : Int} {L : List Lk} {done : Bool} {x t : Int} {w w1 w' : World} (h : Post B r bw m n L done x t w w1) (hB : B ≤ w.heap.size) (hb : Below w1.heap.size w1 w') : Post B r bw m n L done x t w w' := by
  obtain ⟨d, h1, h2, h3, h4, h5⟩ := h
  exact ⟨d, h1.below hb, h2, h3.trans (hb.mono (Nat.le_trans hB h3.size)), fun hr => (h4 hr).trans (hb.mono (h4 hr).size), h5⟩
theorem okB_iff {n x t : Int} : okB n x t = true ↔ (0 ≤ x ∧ x < n) ∧ (0 ≤ t ∧ t < n) := by simp [okB, hasB_iff]
theorem find_all (B r bw m : Nat) (n : Int) (L : List Lk) (hV : Valid n L) (done : Bool) (x t : Int) (w : World) (h : RoutesAt w B r bw m n L done) (hB : B ≤ w.heap.size) :
    Calls Tryz.prog 28 #[.pointer (some ⟨r, 0, none⟩), .int .i64 x, .int .i64 t] w fun e w' => Post B r bw m n L done x t w w' ∧ (erI n L x t = 0 → ∀ d, RoutesAt w' B r bw m n L d → w'.cell? ⟨bw, 1 + x.toNat * 16 + t.toNat, none⟩ = some (.int .i64 (dist n L t x : Int))) ∧ ∃ A c, e = .returned (.tuple #[.slice A (lsI n L x t).length c, .int .i64 (erI n L x t)]) ∧ (lsI n L x t).length ≤ c ∧ Lie intV 1 w' w'.heap.size A (lsI n L x t) := by
  by_cases hok : okB n x t = true
  · obtain ⟨⟨hx0, hx1⟩, ⟨ht0, ht1⟩⟩ := okB_iff.1 hok
    obtain ⟨i, rfl⟩ : ∃ i : Nat, x = i := ⟨x.toNat, by omega⟩
    obtain ⟨j, rfl⟩ : ∃ j : Nat, t = j := ⟨t.toNat, by omega⟩
    have hn := hV.hi
    refine (find_in B r bw m n L hV done i j hx1 ht1 w h hB).mono ?_
    rintro e w' ⟨hR, hb, hd, hc⟩
    refine ⟨⟨true, hR, .inl rfl, hb, fun hr => hd (hr.resolve_right (by rw [hok]; simp)), fun _ => rfl⟩, fun _ d _ => ?_, ?_⟩
    · have := hR.ways.far i j (by omega) (by omega)
      rw [farOf_true hx1 ht1] at this
      exact this
    · unfold lsI erI
      rw [if_pos hok, if_pos hok]
      rcases hc with ⟨h16, rfl⟩ | ⟨h16, A, c, rfl, hcl, hl⟩
      · rw [if_pos h16, if_pos h16]
        exact ⟨none, 0, rfl, Nat.le_refl _, Lie.nil⟩
      · rw [if_neg h16, if_neg h16]
        have hlen : (wayL n L (j : Int) (dist n L (j : Int) (i : Int)) (i : Int)).length = dist n L (j : Int) (i : Int) := wayL_len _ _ _ _ _
        exact ⟨A, c, by rw [hlen], by rw [hlen]; exact hcl, hl⟩
  · have hok' : okB n x t = false := by simpa using hok
    refine (find_out B r bw m n L hV done x t hok' w h).mono ?_
    rintro e w' ⟨rfl, rfl⟩
    refine ⟨⟨done, h, .inr hok', Below.refl _ _, fun _ => Below.refl _ _, id⟩, fun he => ?_, ?_⟩
    · unfold erI at he
      rw [if_neg hok] at he
      cases he
    · unfold lsI erI
      rw [if_neg hok, if_neg hok]
      exact ⟨none, 0, rfl, Nat.le_refl _, Lie.nil⟩
theorem lsI_len (n : Int) (L : List Lk) (hV : Valid n L) (x t : Int) : (lsI n L x t).length ≤ 15 := by
  unfold lsI
  split
  · split
    · simp
    · have := dist_le hV x t
      have := hV.hi
      rw [wayL_len]
      omega
  · simp
theorem Way_no (v : Value) (x t : Int) (w : World) (h : NoneR w v) : Calls Tryz.prog 11 #[v, .int .i64 x, .int .i64 t] w fun e w' => ∃ A c, e = .returned (.tuple #[.slice A 0 c, .int .i64 1]) ∧ Below w.heap.size w w' := by
  have c := hidd (find_no v x t w h)
  have cc := hidd (CloneI_any none [] 0 (by simp) w Lie.nil)
  clear h
  go_enter Tryz.func11, Tryz.ntmps11
  go_wp2_with fail
  refine c.out.mono ?_
  rintro e w1 ⟨rfl, rfl⟩
  go_wp2_with fail
  refine cc.out.mono ?_
  rintro e w1 ⟨A, k, rfl, hl, hb⟩
  go_wp2_with fail
  exact ⟨rfl, .tuple #[.slice A 0 k, .int .i64 1], by simp [results, Tryz.results11, go_sem], A, k, rfl, hb⟩
theorem Way_all (B r bw m : Nat) (n : Int) (L : List Lk) (hV : Valid n L) (done : Bool) (x t : Int) (w : World) (h : RoutesAt w B r bw m n L done) (hB : B ≤ w.heap.size) :
    Calls Tryz.prog 11 #[.pointer (some ⟨r, 0, none⟩), .int .i64 x, .int .i64 t] w fun e w' => Post B r bw m n L done x t w w' ∧ ∃ A c, e = .returned (.tuple #[.slice A (lsI n L x t).length c, .int .i64 (erI n L x t)]) ∧ Lie intV 1 w' w'.heap.size A (lsI n L x t) := by
  have c := hidd (find_all B r bw m n L hV done x t w h hB)
  have hlen := lsI_len n L hV x t
  have CC := hidd (fun A k W (h : Lie intV 1 W W.heap.size A (lsI n L x t)) => CloneI_any A (lsI n L x t) k (by omega) W h)
  have HB := hidd hB
  obtain ⟨PO, hPO⟩ : ∃ PO : Ending → World → Prop, (fun (e : Ending) (w' : World) => Post B r bw m n L done x t w w' ∧ ∃ A c, e = .returned (.tuple #[.slice A (lsI n L x t).length c, .int .i64 (erI n L x t)]) ∧ Lie intV 1 w' w'.heap.size A (lsI n L x t)) = PO := ⟨_, rfl⟩
  rw [hPO]
  have HPO := hidd hPO
  clear h hlen hPO hV hB
  generalize lsI n L x t = l at *
  generalize erI n L x t = er at *
  go_enter Tryz.func11, Tryz.ntmps11
  go_wp2_with fail
  refine c.out.mono ?_
  rintro e w1 ⟨hP, _, A, k, rfl, _, hl⟩
  have HP := hidd hP
  have HL := hidd hl
  clear hP hl
  go_wp2_with fail
  refine (CC.out A k w1 HL.out).mono ?_
  rintro e w2 ⟨A', k', rfl, hl', hb⟩
  go_wp2_with fail
  show PO (.returned (.tuple #[.slice A' l.length k', .int .i64 er])) w2
  rw [← HPO.out]
  exact ⟨HP.out.then HB.out hb, A', k', rfl, hl'⟩
def nxI (n : Int) (L : List Lk) (x t : Int) : Int := if erI n L x t = 0 then (lsI n L x t).headD 0 else 0
def neI (n : Int) (L : List Lk) (x t : Int) : Int := if erI n L x t = 0 then (if (lsI n L x t).length = 0 then 200 else 0) else erI n L x t
theorem Next_no (v : Value) (x t : Int) (w : World) (h : NoneR w v) : Calls Tryz.prog 12 #[v, .int .i64 x, .int .i64 t] w fun e w' => e = .returned (.tuple #[.int .i64 0, .int .i64 1]) ∧ w = w' := by
  have c := hidd (find_no v x t w h)
  clear h
  go_enter Tryz.func12, Tryz.ntmps12
  go_wp2_with fail
  refine c.out.mono ?_
  rintro e w1 ⟨rfl, rfl⟩
  go_wp2_with fail
  exact ⟨rfl, .tuple #[.int .i64 0, .int .i64 1], by simp [results, Tryz.results12, go_sem], rfl, rfl⟩
theorem Next_all (B r bw m : Nat) (n : Int) (L : List Lk) (hV : Valid n L) (done : Bool) (x t : Int) (w : World) (h : RoutesAt w B r bw m n L done) (hB : B ≤ w.heap.size) :
    Calls Tryz.prog 12 #[.pointer (some ⟨r, 0, none⟩), .int .i64 x, .int .i64 t] w fun e w' => Post B r bw m n L done x t w w' ∧ e = .returned (.tuple #[.int .i64 (nxI n L x t), .int .i64 (neI n L x t)]) := by
  have c := hidd (find_all B r bw m n L hV done x t w h hB)
  obtain ⟨PO, hPO⟩ : ∃ PO : Ending → World → Prop, (fun (e : Ending) (w' : World) => Post B r bw m n L done x t w w' ∧ e = .returned (.tuple #[.int .i64 (nxI n L x t), .int .i64 (neI n L x t)])) = PO := ⟨_, rfl⟩
  rw [hPO]
  have HPO := hidd hPO
  have hnx : Hid (nxI n L x t = if erI n L x t = 0 then (lsI n L x t).headD 0 else 0) := hidd rfl
  have hne : Hid (neI n L x t = if erI n L x t = 0 then (if (lsI n L x t).length = 0 then 200 else 0) else erI n L x t) := hidd rfl
  clear h hPO hV hB
  generalize lsI n L x t = l at *
  generalize erI n L x t = er at *
  go_enter Tryz.func12, Tryz.ntmps12
  go_wp2_with fail
  refine c.out.mono ?_
  rintro e w1 ⟨hP, _, A, k, rfl, hk, hl⟩
  have HP := hidd hP
  have HL := hidd hl
  clear hP hl
  by_cases he : er = 0
  · subst he
    cases l with
    | nil =>
      simp only [List.length_nil] at *
      go_wp2_with fail
      show PO (.returned (.tuple #[.int .i64 0, .int .i64 200])) w1
      rw [← HPO.out, hnx.out, hne.out]
      exact ⟨HP.out, rfl⟩
    | cons z l =>
      obtain ⟨ad, rfl, had, hc⟩ := HL.out.int 0 (by simp)
      have hz : av (z :: l) 0 = z := rfl
      rw [hz] at hc
      have hc0 : w1.cell? ad = some (.int .i64 z) := by
        have e0 : ad.add 0 = ad := by unfold Addr.add; split <;> simp_all
        rw [← e0]; exact hc
      have hlb : (((z :: l).length : Int) == 0) = false := beq_eq_false_iff_ne.2 (by rw [List.length_cons]; omega)
      have hl0 : (0 : Int) < ((z :: l).length : Int) := by rw [List.length_cons]; omega
      have hN : Hid ((if (z :: l).length = 0 then (200 : Int) else 0) = 0) := hidd (by simp)
      obtain ⟨NL, hNL⟩ : ∃ k, (z :: l).length = k := ⟨_, rfl⟩
      rw [hNL] at hlb hl0 hk ⊢
      go_wp2_with fail
      show PO (.returned (.tuple #[.int .i64 z, .int .i64 0])) w1
      rw [← HPO.out, hnx.out, hne.out]
      exact ⟨HP.out, by simp⟩
  · have heb : (er != 0) = true := by simp [he]
    go_wp2_with fail
    show PO (.returned (.tuple #[.int .i64 0, .int .i64 er])) w1
    rw [← HPO.out, hnx.out, hne.out, if_neg he, if_neg he]
    exact ⟨HP.out, rfl⟩
def fkI (n : Int) (L : List Lk) (x t : Int) : Int := if erI n L x t = 0 then (dist n L t x : Int) else 0
theorem Far_no (v : Value) (x t : Int) (w : World) (h : NoneR w v) : Calls Tryz.prog 13 #[v, .int .i64 x, .int .i64 t] w fun e w' => e = .returned (.tuple #[.int .i64 0, .int .i64 1]) ∧ w = w' := by
  have c := hidd (find_no v x t w h)
  clear h
  go_enter Tryz.func13, Tryz.ntmps13
  go_wp2_with fail
  refine c.out.mono ?_
  rintro e w1 ⟨rfl, rfl⟩
  go_wp2_with fail
  exact ⟨rfl, .tuple #[.int .i64 0, .int .i64 1], by simp [results, Tryz.results13, go_sem], rfl, rfl⟩
theorem Far_all (B r bw m : Nat) (n : Int) (L : List Lk) (hV : Valid n L) (done : Bool) (x t : Int) (w : World) (h : RoutesAt w B r bw m n L done) (hB : B ≤ w.heap.size) :
    Calls Tryz.prog 13 #[.pointer (some ⟨r, 0, none⟩), .int .i64 x, .int .i64 t] w fun e w' => Post B r bw m n L done x t w w' ∧ e = .returned (.tuple #[.int .i64 (fkI n L x t), .int .i64 (erI n L x t)]) := by
  have c := hidd (find_all B r bw m n L hV done x t w h hB)
  obtain ⟨PO, hPO⟩ : ∃ PO : Ending → World → Prop, (fun (e : Ending) (w' : World) => Post B r bw m n L done x t w w' ∧ e = .returned (.tuple #[.int .i64 (fkI n L x t), .int .i64 (erI n L x t)])) = PO := ⟨_, rfl⟩
  rw [hPO]
  have HPO := hidd hPO
  have hfk : Hid (fkI n L x t = if erI n L x t = 0 then (dist n L t x : Int) else 0) := hidd rfl
  have hok : Hid (erI n L x t = 0 → okB n x t = true) := hidd (fun h => by
    by_cases e : okB n x t = true
    · exact e
    · unfold erI at h; rw [if_neg e] at h; cases h)
  have hn := hV.hi
  clear h hPO hV hB
  generalize lsI n L x t = l at *
  generalize erI n L x t = er at *
  go_enter Tryz.func13, Tryz.ntmps13
  go_wp2_with fail
  refine c.out.mono ?_
  rintro e w1 ⟨hP, hF, A, k, rfl, hk, hl⟩
  have HP := hidd hP
  by_cases he : er = 0
  · subst he
    obtain ⟨⟨hx0, hx1⟩, ⟨ht0, ht1⟩⟩ := okB_iff.1 (hok.out rfl)
    obtain ⟨i, rfl⟩ : ∃ i : Nat, x = i := ⟨x.toNat, by omega⟩
    obtain ⟨j, rfl⟩ : ∃ j : Nat, t = j := ⟨t.toNat, by omega⟩
    obtain ⟨d, hR, _⟩ := hP
    have hc := hF rfl d hR
    have c3 := hR.c3
    have hx16 : (i : Int) < 16 := by omega
    have ht16 : (j : Int) < 16 := by omega
    simp only [Int.toNat_natCast] at hc
    clear hR hF hl
    generalize dist n L (j : Int) (i : Int) = D at *
    go_wp2_with fail
    show PO (.returned (.tuple #[.int .i64 (D : Int), .int .i64 0])) w1
    rw [← HPO.out, hfk.out]
    exact ⟨HP.out, rfl⟩
  · have heb : (er != 0) = true := by simp [he]
    clear hP hF hl
    go_wp2_with fail
    show PO (.returned (.tuple #[.int .i64 0, .int .i64 er])) w1
    rw [← HPO.out, hfk.out, if_neg he]
    exact ⟨HP.out, rfl⟩
end Go.Proofs.YtalhbjmhipiiiaaGreat.Tp
