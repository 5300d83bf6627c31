/- The bound of a spec, a rate and terms, worked out. -/
import Derived.Test.YtianceglbkcmpaaBdB
import Derived.Deep.RegionHeld3
import Derived.Deep.DeepCutAuto
namespace Go.Proofs.Ytianceglbkcmpaa
set_option linter.unusedVariables false
open Go.RowKit

/-- a spec's five numbers, terms' two, the result's box, as they lie in the call's own memory. -/
def LateAt (W : World) (b : Nat) (p r u m l c d : Int) : Prop :=
  (b < W.heap.size ∧ W.cell? ⟨b, 0, none⟩ = some (.int .i64 p) ∧ W.cell? ⟨b, 1, none⟩ = some (.int .i64 r) ∧ W.cell? ⟨b, 2, none⟩ = some (.int .i64 u) ∧ W.cell? ⟨b, 3, none⟩ = some (.int .i64 m)) ∧ GBox W (b + 1) c d ∧ GBox W (b + 1 + 1) 0 0
theorem LateAt.step {W W' : World} {b : Nat} {p r u m l c d : Int} (h : LateAt W b p r u m l c d) (hb : Below W.heap.size W W') : LateAt W' b p r u m l c d :=
  ⟨⟨Nat.lt_of_lt_of_le h.1.1 hb.size, (hb.cell (p := ⟨b, 0, none⟩) h.1.1).trans h.1.2.1, (hb.cell (p := ⟨b, 1, none⟩) h.1.1).trans h.1.2.2.1, (hb.cell (p := ⟨b, 2, none⟩) h.1.1).trans h.1.2.2.2.1, (hb.cell (p := ⟨b, 3, none⟩) h.1.1).trans h.1.2.2.2.2⟩, h.2.1.step hb, h.2.2.step hb⟩
theorem GBox.put {W : World} {b : Nat} {u v : Int} (h : GBox W b u v) (x y : Int) : GBox ((W.setCell ⟨b, 0, none⟩ (.int .i64 x)).setCell ⟨b, 1, none⟩ (.int .i64 y)) b x y := by
  obtain ⟨h0, h1, h2, h3, h4⟩ := h
  exact ⟨by simpa using h0, by simp [go_sem, *], by simp [go_sem, *], by simp [go_sem, *], by simp [go_sem, *]⟩
theorem GBox.far {W : World} {b c : Nat} {u v : Int} (hne : ¬ c = b) (h : GBox W c u v) (x y : Int) : GBox ((W.setCell ⟨b, 0, none⟩ (.int .i64 x)).setCell ⟨b, 1, none⟩ (.int .i64 y)) c u v := by
  obtain ⟨h0, h1, h2, h3, h4⟩ := h
  exact ⟨by simpa using h0, by simp [go_sem, *], by simp [go_sem, *], by simp [go_sem, *], by simp [go_sem, *]⟩
theorem below_set {w W : World} {b : Nat} (h : Below w.heap.size w W) (hb : w.heap.size ≤ b) (x y : Int) : Below w.heap.size w ((W.setCell ⟨b, 0, none⟩ (.int .i64 x)).setCell ⟨b, 1, none⟩ (.int .i64 y)) := (h.setCell (by simpa using hb) _).setCell (by simpa using hb) _
theorem LateAt.far {W : World} {b k : Nat} {p r u m l c d : Int} (hk : b + 1 + 1 < k) (h : LateAt W b p r u m l c d) (x y : Int) : LateAt ((W.setCell ⟨k, 0, none⟩ (.int .i64 x)).setCell ⟨k, 1, none⟩ (.int .i64 y)) b p r u m l c d := by
  obtain ⟨⟨h0, h1, h2, h3, h4⟩, h5, h6⟩ := h
  have n0 : ¬ b = k := by omega
  exact ⟨⟨by simpa using h0, by simp [go_sem, *], by simp [go_sem, *], by simp [go_sem, *], by simp [go_sem, *]⟩, GBox.far (by omega) h5 x y, GBox.far (by omega) h6 x y⟩
theorem lies3 (V : World) (T : TypeId) (a b c d e f : Int) : LiesO (V.alloc (.cells #[.int .i64 a, .int .i64 b, .int .i64 c, .int .i64 d, .int .i64 e, .int .i64 f] T)) (some ⟨V.heap.size, 0, none⟩) [(a, b), (c, d), (e, f)] := fun _ => by
  refine ⟨_, rfl, by simp, fun i hi => ?_⟩
  have hi2 : i = 0 ∨ i = 1 ∨ i = 2 := by simp at hi; omega
  rcases hi2 with rfl | rfl | rfl <;> exact ⟨by simp [Addr.add, go_sem], by simp [Addr.add, go_sem]⟩
/-- what the bound is worked out of: each part is a fraction that fits. -/
def LateOk (p r u m l R c d N D : Int) : Prop := ∃ n1 d1 n2 d2 n3 d3 : Int, makeR (m + c) R = (n1, d1, 0) ∧ makeR d 1 = (n2, d2, 0) ∧ ((R < p ∧ makeR ((u - m) * (p - R)) (R * (p - r)) = (n3, d3, 0)) ∨ (¬ R < p ∧ n3 = 0 ∧ d3 = 1)) ∧ sumR [(n1, d1), (n2, d2), (n3, d3)] = (N, D, 0) ∧ Words [(n1, d1), (n2, d2), (n3, d3)]
theorem words3 {a b c d e f : Int} (h : Words [(a, b), (c, d), (e, f)]) : True := trivial
def SpecIn (p r u m : Int) : Prop := 1 ≤ r ∧ r ≤ p ∧ p ≤ 1000000 ∧ 1 ≤ m ∧ m ≤ 2000 ∧ m ≤ u ∧ u ≤ 10000000
theorem late_prods {p r u m R : Int} (h : SpecIn p r u m) (h1 : 1 ≤ R) (h2 : R ≤ 1000000) (h3 : R < p) : (0 ≤ (u - m) * (p - R) ∧ (u - m) * (p - R) ≤ 10000000000000) ∧ 0 ≤ R * (p - r) ∧ R * (p - r) ≤ 1000000000000 := by
  obtain ⟨a1, a2, a3, a4, a5, a6, a7⟩ := h
  have e1 : (u - m) * (p - R) ≤ 10000000 * 1000000 := Int.mul_le_mul (by omega) (by omega) (by omega) (by decide)
  have e2 : R * (p - r) ≤ 1000000 * 1000000 := Int.mul_le_mul (by omega) (by omega) (by omega) (by decide)
  exact ⟨⟨Int.mul_nonneg (by omega) (by omega), by omega⟩, Int.mul_nonneg (by omega) (by omega), by omega⟩
theorem wrap_both3 {x : Int} (h0 : -9223372036854775808 ≤ x) (h1 : x ≤ 9223372036854775807) : IntKind.i64.wrap x = x ∧ wrap64 x = x := by
  have e1 : IntKind.i64.wrap x = x := IntWalk.i64_in _ (by omega)
  refine ⟨e1, ?_⟩
  conv => rhs; rw [← e1]
  simp [IntKind.wrap_i64, wrap64]
set_option maxRecDepth 100000 in
set_option maxHeartbeats 8000000 in
theorem late_ok (p r u m l R c d N D : Int) (hs : SpecIn p r u m) (hR1 : 1 ≤ R) (hR2 : R ≤ 1000000) (hc1 : 0 ≤ c) (hc2 : c ≤ 10000000) (hd1 : 0 ≤ d) (hd2 : d ≤ 1000000) (hok : LateOk p r u m l R c d N D) (w : World) :
    Calls Try.prog 23 #[.agg #[.int .i64 p, .int .i64 r, .int .i64 u, .int .i64 m, .int .i64 l], .int .i64 R, .agg #[.int .i64 c, .int .i64 d]] w fun e w' => e = .returned (.agg #[.int .i64 N, .int .i64 D]) ∧ Below w.heap.size w w' := by
  obtain ⟨n1, d1, n2, d2, n3, d3, m1, m2, m3, hsum, hwd⟩ := hok
  have hs2 := hs
  obtain ⟨a1, a2, a3, a4, a5, a6, a7⟩ := hs2
  have c0 := hidd (fun W => boundBy_ok 0 1 0 1 (by decide) (by decide) (by decide) (by decide) (by decide +kernel) W)
  have c1 := hidd (fun W => boundBy_ok (m + c) R n1 d1 (by omega) (by omega) (by omega) (by omega) m1 W)
  have c2 := hidd (fun W => boundBy_ok d 1 n2 d2 (by omega) (by omega) (by decide) (by decide) m2 W)
  have cS := fun (V : World) (T : TypeId) => sum_any (some ⟨V.heap.size, 0, none⟩) [(n1, d1), (n2, d2), (n3, d3)] 3 hwd (by simp) (V.alloc (.cells #[.int .i64 n1, .int .i64 d1, .int .i64 n2, .int .i64 d2, .int .i64 n3, .int .i64 d3] T)) (lies3 V T _ _ _ _ _ _)
  rw [hsum] at cS
  unfold pairOf at cS
  simp only [List.length_cons, List.length_nil, Nat.reduceAdd] at cS
  have CS := hidd cS
  have cM := hidd (fun W => mustR_ok N D W)
  have w1 : IntKind.i64.wrap (m + c) = m + c := IntWalk.i64_in _ (by omega)
  have hstart : LateAt (((w.alloc (.cells #[.int .i64 p, .int .i64 r, .int .i64 u, .int .i64 m, .int .i64 l] 23)).alloc (.cells #[.int .i64 c, .int .i64 d] 25)).alloc (.cells #[.int .i64 0, .int .i64 0] 27)) w.heap.size p r u m l c d :=
    ⟨⟨by simp; omega, by simp [go_sem], by simp [go_sem], by simp [go_sem], by simp [go_sem]⟩, (GBox.new (by simp) _ c d).past _, GBox.new (by simp) _ 0 0⟩
  have HST := hidd hstart
  have hb3 := below_new (below_new (below_new (Below.refl w.heap.size w) (.cells #[.int .i64 p, .int .i64 r, .int .i64 u, .int .i64 m, .int .i64 l] 23)) (.cells #[.int .i64 c, .int .i64 d] 25)) (.cells #[.int .i64 0, .int .i64 0] 27)
  have HB3 := hidd hb3
  clear hstart hb3 cS hsum hwd m1 m2
  go_enter Try.func23, Try.ntmps23
  go_wp2_with fail
  refine (c0.out _).mono ?_
  rintro e wb ⟨rfl, hb⟩
  have HLA := hidd ((HST.out.step hb).step ((Below.refl wb.heap.size wb).alloc (Nat.le_refl _) (.cells #[.int .i64 0, .int .i64 1] 27)))
  have HBA := hidd (below_new (below_step HB3.out hb) (.cells #[.int .i64 0, .int .i64 1] 27))
  have hlt1 : w.heap.size + 1 + 1 < wb.heap.size := by have := hb.size; simp at this; omega
  have HG := hidd (GBox.new (rfl : wb.heap.size = wb.heap.size) 27 0 1)
  clear hb HST HB3
  obtain ⟨⟨x0, x1, x2, x3, x4⟩, ⟨y0, y1, y2, y3, y4⟩, z0, z1, z2, z3, z4⟩ := HLA.out
  go_upto_if 12 with fail
  go_cut [] (fun wx => LateAt wx w.heap.size p r u m l c d ∧ GBox wx wb.heap.size n3 d3 ∧ Below w.heap.size w wx)
  case first =>
    rcases m3 with ⟨hlt, m3⟩ | ⟨hlt, rfl, rfl⟩
    · obtain ⟨⟨q1, q2⟩, q3, q4⟩ := late_prods hs hR1 hR2 hlt
      have c3 := fun W => boundBy_ok ((u - m) * (p - R)) (R * (p - r)) n3 d3 (by omega) (by omega) (by omega) (by omega) m3 W
      obtain ⟨v1, v2⟩ := wrap_both3 (x := (u - m) * (p - R)) (by omega) (by omega)
      obtain ⟨v3, v4⟩ := wrap_both3 (x := R * (p - r)) (by omega) (by omega)
      obtain ⟨U, hU⟩ : ∃ U, (u - m) * (p - R) = U := ⟨_, rfl⟩
      obtain ⟨V, hV⟩ : ∃ V, R * (p - r) = V := ⟨_, rfl⟩
      rw [hU, hV] at c3
      have g1 := v1.trans hU
      have g2 := v2.trans hU
      have g3 := v3.trans hV
      have g4 := v4.trans hV
      have C3 := hidd c3
      clear v1 v2 v3 v4 hU hV c3 m3 q1 q2 q3 q4 hs
      go_wp2_with fail
      refine (C3.out _).mono ?_
      rintro e wd ⟨rfl, hb⟩
      have HLD := hidd (HLA.out.step hb)
      have HGD := hidd (HG.out.step hb)
      have HBD := hidd (below_step HBA.out hb)
      clear x0 x1 x2 x3 x4 y0 y1 y2 y3 y4 z0 z1 z2 z3 z4 hb
      obtain ⟨s0, s1, s2, s3, s4⟩ := HGD.out
      go_wp2_with fail
      go_meet
      exact ⟨HLD.out.far hlt1 n3 d3, HGD.out.put n3 d3, below_set HBD.out (by omega) n3 d3⟩
    · have hlt2 : decide (R < p) = false := decide_eq_false (by omega)
      clear hs
      go_wp2_with fail
      go_meet
      exact ⟨HLA.out, HG.out, HBA.out⟩
  case rest =>
    obtain ⟨hL, hG, hB⟩ := hcut
    obtain ⟨wA, rfl⟩ : ∃ wA : World, wA = wc := ⟨_, rfl⟩
    have HL := hidd hL
    have HG2 := hidd hG
    have HB := hidd hB
    have hsz := hB.size
    have KEEP := hidd (fun W' (hb : Below wA.heap.size wA W') => (show (W'.cell? ⟨w.heap.size, 3, none⟩ = some (.int .i64 m) ∧ W'.cell? ⟨w.heap.size + 1, 0, none⟩ = some (.int .i64 c) ∧ W'.cell? ⟨w.heap.size + 1, 1, none⟩ = some (.int .i64 d)) ∧ W'.cell? ⟨wb.heap.size, 0, none⟩ = some (.int .i64 n3) ∧ W'.cell? ⟨wb.heap.size, 1, none⟩ = some (.int .i64 d3) from ⟨⟨(HL.out.step hb).1.2.2.2.2, (HL.out.step hb).2.1.2.1, (HL.out.step hb).2.1.2.2.1⟩, (HG2.out.step hb).2.1, (HG2.out.step hb).2.2.1⟩))
    have hn1 : ¬ wb.heap.size = w.heap.size + 1 + 1 := by omega
    have hn2 : ¬ w.heap.size + 1 + 1 = wb.heap.size := by omega
    have KRES := hidd (fun W' (hb : Below wA.heap.size wA W') => (HL.out.step hb).2.2)
    clear hL hG hB HLA HBA HG m3 hs x0 x1 x2 x3 x4 y0 y1 y2 y3 y4 z0 z1 z2 z3 z4 c0
    obtain ⟨⟨k0, k1, k2⟩, k3, k4⟩ := KEEP.out _ (Below.refl _ _)
    go_wp2_with fail
    go_region_held3 (fun w' => (w'.cell? ⟨w.heap.size, 3, none⟩ = some (.int .i64 m) ∧ w'.cell? ⟨w.heap.size + 1, 0, none⟩ = some (.int .i64 c) ∧ w'.cell? ⟨w.heap.size + 1, 1, none⟩ = some (.int .i64 d)) ∧ w'.cell? ⟨wb.heap.size, 0, none⟩ = some (.int .i64 n3) ∧ w'.cell? ⟨wb.heap.size, 1, none⟩ = some (.int .i64 d3))
      ((first | exact KEEP.out _ cum4 | exact KEEP.out _ cum3 | exact KEEP.out _ (below_new cum2 _) | exact KEEP.out _ cum2 | exact KEEP.out _ cum1 | exact ⟨⟨k0, k1, k2⟩, k3, k4⟩ | (obtain ⟨⟨g0, g1, g2⟩, g3, g4⟩ := KEEP.out _ cum4; refine ⟨⟨?_, ?_, ?_⟩, ?_, ?_⟩ <;> simp [go_sem, *]; done) | go_keep))
      ((first
        | (go_at_call_of 45 (Value.int IntKind.i64 (m + c)); refine (c1.out _).mono ?_; rintro E1 x1 ⟨rfl, l1⟩; have cum1 : Below wA.heap.size wA x1 := (by first | exact below_step (Below.drew (Below.refl _ _)) l1 | exact below_step (Below.refl _ _) l1))
        | (go_at_call_of 45 (Value.int IntKind.i64 d); refine (c2.out _).mono ?_; rintro E2 x2 ⟨rfl, l2⟩; have cum2 : Below wA.heap.size wA x2 := (by first | exact below_step cum1 l2 | exact below_step (Below.drew (Below.refl _ _)) l2))
        | (go_at_call 52; refine (CS.out _ _).mono ?_; rintro E3 x3 ⟨rfl, l3⟩; have cum3 : Below wA.heap.size wA x3 := (by first | exact below_step (below_new cum2 _) l3 | exact below_step cum2 l3))
        | (go_at_call 51; refine (cM.out _).mono ?_; rintro E4 x4 ⟨rfl, l4⟩; have cum4 : Below wA.heap.size wA x4 := (by first | exact below_step cum3 l4); obtain ⟨r0, r1, r2, r3, r4⟩ := KRES.out _ cum4)))
    all_goals go_wp2_with fail
    all_goals exact bodyPost_ret (v := .agg #[.int .i64 N, .int .i64 D]) (by simp [results, Try.results23, go_sem, *]) rfl ⟨rfl, by have := HB.out.trans (cum4.mono hsz); (repeat' (first | (with_reducible exact Below.refl _ _) | (with_reducible assumption) | (with_reducible apply Below.setCell) | (with_reducible apply Below.alloc) | (with_reducible apply Below.drew) | (with_reducible apply below_drewN) | (with_reducible refine Below.trans ?_ (Below.mono (by assumption) ?_)) | omega | (simp; done) | (simp; omega)))⟩
end Go.Proofs.Ytianceglbkcmpaa
