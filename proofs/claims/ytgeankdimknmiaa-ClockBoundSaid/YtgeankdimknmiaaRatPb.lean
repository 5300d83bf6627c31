/- A fraction out of two words each, or the panic that tells that it does not fit. -/
import Derived.Test.YtgeankdimknmiaaRatPa
namespace Go.Proofs.Ytgeankdimknmiaa
open Go.RowKit

theorem zs4 {a b : Nat} (h : a + 3 < b) : a < b ∧ a + 1 < b ∧ a + 1 + 1 < b ∧ a + 1 + 1 + 1 < b := by omega

theorem fraction_ok (b : Bool) (n d h l h' l' : Nat) (hn : Two n h l) (hd : Two d h' l') (h1 : n < 9223372036854775808) (h2 : d < 9223372036854775808) (w : World) :
    Calls Try.prog 77 #[.bool b, .agg #[.int .u64 h, .int .u64 l], .agg #[.int .u64 h', .int .u64 l']] w fun e w' => e = .returned (.agg #[.int .i64 (RM.sgn b n), .int .i64 d]) ∧ Below w.heap.size w w' := by
  obtain ⟨rfl, rfl⟩ := two_small _ _ _ hn h1
  obtain ⟨rfl, rfl⟩ := two_small _ _ _ hd h2
  clear hn hd
  go_enter Try.func77, Try.ntmps77
  go_wp2_with fail
  refine (less_no _ _ _ _ (by omega) _).mono ?_
  rintro e w1 ⟨rfl, hb⟩
  obtain ⟨hc, hf⟩ := bcell hb
  obtain ⟨z0, z1, z2, z3⟩ : w.heap.size < w1.heap.size ∧ w.heap.size + 1 < w1.heap.size ∧ w.heap.size + 1 + 1 < w1.heap.size ∧ w.heap.size + 1 + 1 + 1 < w1.heap.size := zs4 (by have := hb.size; simp at this; omega)
  go_wp2_with fail
  refine (less_no _ _ _ _ (by omega) _).mono ?_
  rintro e w2 ⟨rfl, hb2⟩
  obtain ⟨hc2, hf2⟩ := bcell hb2
  obtain ⟨y0, y1, y2, y3⟩ : w.heap.size < w2.heap.size ∧ w.heap.size + 1 < w2.heap.size ∧ w.heap.size + 1 + 1 < w2.heap.size ∧ w.heap.size + 1 + 1 + 1 < w2.heap.size := zs4 (by have := hb2.size; omega)
  cases b
  · go_wp2_with fail
    exact bodyPost_ret (v := .agg #[.int .i64 (RM.sgn false l), .int .i64 l']) (by simp [results, Try.results77, go_sem, RM.sgn, *]) rfl ⟨rfl, by (repeat' (first | (with_reducible exact Below.refl _ _) | (with_reducible assumption) | (with_reducible apply Below.setCell) | (with_reducible apply Below.alloc) | (with_reducible apply Below.drew) | (with_reducible apply below_drewN) | (with_reducible refine Below.trans ?_ (Below.mono (by assumption) ?_)) | omega | (simp; done) | (simp; omega)))⟩
  · go_wp2_with fail
    refine (minus_any _ _ (by omega) (by omega) _).mono ?_
    rintro e w3 ⟨rfl, hb3⟩
    obtain ⟨hc3, hf3⟩ := bcell hb3
    have v0 : w2.heap.size < w3.heap.size := by have := hb3.size; simp at this; omega
    have v1 : w.heap.size + 1 + 1 < w3.heap.size := by omega
    go_wp2_with fail
    exact bodyPost_ret (v := .agg #[.int .i64 (RM.sgn true l), .int .i64 l']) (by simp [results, Try.results77, go_sem, RM.sgn, *]) rfl ⟨rfl, by (repeat' (first | (with_reducible exact Below.refl _ _) | (with_reducible assumption) | (with_reducible apply Below.setCell) | (with_reducible apply Below.alloc) | (with_reducible apply Below.drew) | (with_reducible apply below_drewN) | (with_reducible refine Below.trans ?_ (Below.mono (by assumption) ?_)) | omega | (simp; done) | (simp; omega)))⟩

theorem fraction_no (b : Bool) (n d h l h' l' : Nat) (hn : Two n h l) (hd : Two d h' l') (hno : ¬ (n < 9223372036854775808 ∧ d < 9223372036854775808)) (w : World) :
    Calls Try.prog 77 #[.bool b, .agg #[.int .u64 h, .int .u64 l], .agg #[.int .u64 h', .int .u64 l']] w fun e w' => e = errPanic 110 ∧ Below w.heap.size w w' := by
  by_cases h1 : n < 9223372036854775808
  · have h2 : ¬ d < 9223372036854775808 := fun h => hno ⟨h1, h⟩
    obtain ⟨rfl, rfl⟩ := two_small _ _ _ hn h1
    have hd2 := two_big _ _ _ hd h2
    clear hn hd hno h2
    go_enter Try.func77, Try.ntmps77
    go_wp2_with fail
    refine (less_no _ _ _ _ (by omega) _).mono ?_
    rintro e w1 ⟨rfl, hb⟩
    obtain ⟨hc, hf⟩ := bcell hb
    obtain ⟨z0, z1, z2, z3⟩ : w.heap.size < w1.heap.size ∧ w.heap.size + 1 < w1.heap.size ∧ w.heap.size + 1 + 1 < w1.heap.size ∧ w.heap.size + 1 + 1 + 1 < w1.heap.size := zs4 (by have := hb.size; simp at this; omega)
    go_wp2_with fail
    refine (less_yes _ _ _ _ (by omega) _).mono ?_
    rintro e w2 ⟨rfl, hb2⟩
    go_wp2_with fail
    exact ⟨rfl, rfl, by (repeat' (first | (with_reducible exact Below.refl _ _) | (with_reducible assumption) | (with_reducible apply Below.setCell) | (with_reducible apply Below.alloc) | (with_reducible apply Below.drew) | (with_reducible apply below_drewN) | (with_reducible refine Below.trans ?_ (Below.mono (by assumption) ?_)) | omega | (simp; done) | (simp; omega)))⟩
  · have hn2 := two_big _ _ _ hn h1
    clear hn hd hno h1
    go_enter Try.func77, Try.ntmps77
    go_wp2_with fail
    refine (less_yes _ _ _ _ (by omega) _).mono ?_
    rintro e w1 ⟨rfl, hb⟩
    go_wp2_with fail
    exact ⟨rfl, rfl, by (repeat' (first | (with_reducible exact Below.refl _ _) | (with_reducible assumption) | (with_reducible apply Below.setCell) | (with_reducible apply Below.alloc) | (with_reducible apply Below.drew) | (with_reducible apply below_drewN) | (with_reducible refine Below.trans ?_ (Below.mono (by assumption) ?_)) | omega | (simp; done) | (simp; omega)))⟩
end Go.Proofs.Ytgeankdimknmiaa
