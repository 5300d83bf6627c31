/- Buckets: Has, Spec, Now, Copy, Same. -/
import Derived.Test.YthaiphkmkchhoaaBkF
namespace Go.Proofs.Ythaiphkmkchhoaa
open Go.RowKit
set_option linter.unusedVariables false
theorem bnow_any {b : Nat} {p r u m l : Int} {s : BM.St} {w : World} (hB : BktAt w b p r u m l s) (hp : 1 ≤ p) : Calls Try.prog 38 #[.pointer (some ⟨b, 0, none⟩)] w fun e w' => e = .returned (.int .i64 s.1) ∧ w = w' := by
  have c := hidd (isNone_yes hB hp)
  have c5 := hB.c5
  clear hB hp
  go_enter Try.func38, Try.ntmps38
  go_wp2_with fail
  refine c.out.mono ?_
  rintro e w' ⟨rfl, rfl⟩
  go_wp2_with fail
  go_ret
  exact ⟨rfl, rfl⟩
theorem bnow_zero {b : Nat} {w : World} (hB : ZeroAt w b) : Calls Try.prog 38 #[.pointer (some ⟨b, 0, none⟩)] w fun e w' => e = .returned (.int .i64 0) ∧ w = w' := by
  have c := hidd (isNone_zero hB)
  clear hB
  go_enter Try.func38, Try.ntmps38
  go_wp2_with fail
  refine c.out.mono ?_
  rintro e w' ⟨rfl, rfl⟩
  go_wp2_with fail
  go_ret
  exact ⟨rfl, rfl⟩
theorem bspec_any {b : Nat} {p r u m l : Int} {s : BM.St} {w : World} (hB : BktAt w b p r u m l s) (hp : 1 ≤ p) : Calls Try.prog 27 #[.pointer (some ⟨b, 0, none⟩)] w fun e w' => e = .returned (.agg #[.int .i64 p, .int .i64 r, .int .i64 u, .int .i64 m, .int .i64 l]) ∧ Below w.heap.size w w' := by
  have c := hidd (fun W (h : BktAt W b p r u m l s) => isNone_yes h hp)
  have HB := hidd hB
  have hlt := hB.lt
  obtain ⟨lt, c0, c1, c2, c3, c4, c5, c6, c7, f5, f6, f7⟩ := hB
  clear hp c5 c6 c7 f5 f6 f7
  go_enter Try.func27, Try.ntmps27
  go_wp2_with fail
  refine (c.out _ (HB.out.below (below_new (Below.refl _ _) _))).mono ?_
  rintro e w' ⟨rfl, rfl⟩
  go_wp2_with fail
  exact bodyPost_ret (v := .agg #[.int .i64 p, .int .i64 r, .int .i64 u, .int .i64 m, .int .i64 l]) (by simp [results, Try.results27, go_sem]) rfl ⟨rfl, by (repeat' (first | (with_reducible exact Below.refl _ _) | (with_reducible assumption) | (with_reducible apply Below.setCell) | (with_reducible apply Below.alloc) | (with_reducible apply Below.drew) | (with_reducible apply below_drewN) | (with_reducible refine Below.trans ?_ (Below.mono (by assumption) ?_)) | omega | (simp; done) | (simp; omega)))⟩
theorem bspec_nil (w : World) : Calls Try.prog 27 #[.pointer none] w fun e w' => e = .returned (.agg #[.int .i64 0, .int .i64 0, .int .i64 0, .int .i64 0, .int .i64 0]) ∧ Below w.heap.size w w' := by
  have c := hidd (fun W => isNone_nil W)
  go_enter Try.func27, Try.ntmps27
  go_wp2_with fail
  refine (c.out _).mono ?_
  rintro e w' ⟨rfl, rfl⟩
  go_wp2_with fail
  exact bodyPost_ret (v := .agg #[.int .i64 0, .int .i64 0, .int .i64 0, .int .i64 0, .int .i64 0]) (by simp [results, Try.results27, go_sem]) rfl ⟨rfl, by (repeat' (first | (with_reducible exact Below.refl _ _) | (with_reducible assumption) | (with_reducible apply Below.setCell) | (with_reducible apply Below.alloc) | (with_reducible apply Below.drew) | (with_reducible apply below_drewN) | (with_reducible refine Below.trans ?_ (Below.mono (by assumption) ?_)) | omega | (simp; done) | (simp; omega)))⟩
theorem bcopy_zero {b : Nat} {w : World} (hB : ZeroAt w b) : Calls Try.prog 28 #[.pointer (some ⟨b, 0, none⟩)] w fun e w' => e = .returned (.pointer none) ∧ w = w' := by
  have c := hidd (isNone_zero hB)
  clear hB
  go_enter Try.func28, Try.ntmps28
  go_wp2_with fail
  refine c.out.mono ?_
  rintro e w' ⟨rfl, rfl⟩
  go_wp2_with fail
  go_ret
  exact ⟨rfl, rfl⟩
theorem bcopy_any {b : Nat} {p r u m l : Int} {s : BM.St} {w : World} (hB : BktAt w b p r u m l s) (hp : 1 ≤ p) : Calls Try.prog 28 #[.pointer (some ⟨b, 0, none⟩)] w fun e w' => e = .returned (.pointer (some ⟨w.heap.size, 0, none⟩)) ∧ BktAt w' w.heap.size p r u m l s ∧ Below w.heap.size w w' := by
  have c := hidd (isNone_yes hB hp)
  obtain ⟨lt, c0, c1, c2, c3, c4, c5, c6, c7, f5, f6, f7⟩ := hB
  clear hp f5 f6 f7
  go_enter Try.func28, Try.ntmps28
  go_wp2_with fail
  refine c.out.mono ?_
  rintro e w' ⟨rfl, rfl⟩
  go_wp2_with fail
  go_ret
  refine ⟨rfl, ⟨by simp, ?_, ?_, ?_, ?_, ?_, ?_, ?_, ?_, ?_, ?_, ?_⟩, by (repeat' (first | (with_reducible exact Below.refl _ _) | (with_reducible assumption) | (with_reducible apply Below.setCell) | (with_reducible apply Below.alloc) | (with_reducible apply Below.drew) | (with_reducible apply below_drewN) | (with_reducible refine Below.trans ?_ (Below.mono (by assumption) ?_)) | omega | (simp; done) | (simp; omega)))⟩ <;> simp [go_sem]
theorem bsame_eq {a b : Nat} {p r u m l : Int} {s : BM.St} {w : World} (hA : BktAt w a p r u m l s) (hB : BktAt w b p r u m l s) (hp : 1 ≤ p) : Calls Try.prog 30 #[.pointer (some ⟨a, 0, none⟩), .pointer (some ⟨b, 0, none⟩)] w fun e w' => e = .returned (.bool true) ∧ ∃ q, w' = w.drewN q := by
  have ca := hidd (isNone_yes hA hp)
  have cb := hidd (isNone_yes hB hp)
  obtain ⟨lt, c0, c1, c2, c3, c4, c5, c6, c7, f5, f6, f7⟩ := hA
  obtain ⟨lt', d0, d1, d2, d3, d4, d5, d6, d7, f5', f6', f7'⟩ := hB
  have h1 := fun w => bkt_eq p r u m l s.1 s.2.1 s.2.2 w
  have h2 := fun w => bkt_eq_bin p r u m l s.1 s.2.1 s.2.2 w
  clear hp f5 f6 f7 f5' f6' f7'
  go_enter Try.func30, Try.ntmps30
  go_wp2_with fail
  refine ca.out.mono ?_
  rintro e w' ⟨rfl, rfl⟩
  go_wp2_with fail
  refine cb.out.mono ?_
  rintro e w' ⟨rfl, rfl⟩
  go_wp2_with fail
  go_quiet (fail)
  go_wp2_with fail
  go_ret
  exact ⟨rfl, _, rfl⟩
theorem bsame_nil {a : Nat} {p r u m l : Int} {s : BM.St} {w : World} (hA : BktAt w a p r u m l s) (hp : 1 ≤ p) : Calls Try.prog 30 #[.pointer (some ⟨a, 0, none⟩), .pointer none] w fun e w' => e = .returned (.bool false) ∧ w = w' := by
  have ca := hidd (isNone_yes hA hp)
  have cb := hidd (fun W => isNone_nil W)
  clear hA hp
  go_enter Try.func30, Try.ntmps30
  go_wp2_with fail
  refine ca.out.mono ?_
  rintro e w' ⟨rfl, rfl⟩
  go_wp2_with fail
  refine (cb.out _).mono ?_
  rintro e w' ⟨rfl, rfl⟩
  go_wp2_with fail
  refine ca.out.mono ?_
  rintro e w' ⟨rfl, rfl⟩
  go_wp2_with fail
  go_ret
  exact ⟨rfl, rfl⟩
theorem bsame_none {b : Nat} {w : World} (hB : ZeroAt w b) : Calls Try.prog 30 #[.pointer none, .pointer (some ⟨b, 0, none⟩)] w fun e w' => e = .returned (.bool true) ∧ w = w' := by
  have ca := hidd (fun W => isNone_nil W)
  have cb := hidd (isNone_zero hB)
  clear hB
  go_enter Try.func30, Try.ntmps30
  go_wp2_with fail
  refine (ca.out _).mono ?_
  rintro e w' ⟨rfl, rfl⟩
  go_wp2_with fail
  refine (ca.out _).mono ?_
  rintro e w' ⟨rfl, rfl⟩
  go_wp2_with fail
  refine cb.out.mono ?_
  rintro e w' ⟨rfl, rfl⟩
  go_wp2_with fail
  go_ret
  exact ⟨rfl, rfl⟩
end Go.Proofs.Ythaiphkmkchhoaa
