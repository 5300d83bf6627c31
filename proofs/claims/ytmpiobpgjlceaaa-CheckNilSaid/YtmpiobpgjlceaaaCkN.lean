/- The walk of CheckNil: a sum that is not there answers ErrNil. -/
import Derived.Test.YtmpiobpgjlceaaaCkJ
namespace Go.Proofs.Ytmpiobpgjlceaaa
set_option linter.unusedVariables false
open Go.RowKit

/-- no sum under way: none at all, or one that New did not make. -/
def NoAdder (W : World) (p : Option Addr) : Prop := p = none ∨ ∃ b, p = some ⟨b, 0, none⟩ ∧ W.cell? ⟨b, 3, none⟩ = some (.bool false)
theorem isNone_no (p : Option Addr) (W : World) (h : NoAdder W p) : Calls Try.prog 25 #[.pointer p] W fun e w' => e = .returned (.bool true) ∧ W = w' := by
  rcases h with rfl | ⟨b, rfl, hc⟩
  · exact isNone_nil W
  · exact isNone_any b false W hc
theorem Write_no (p : Option Addr) (A : Option Addr) (n c : Nat) (W : World) (h : NoAdder W p) : Calls Try.prog 16 #[.pointer p, .slice A n c] W fun e w' => e = .returned (.int .i64 1) ∧ W = w' := by
  have ci := hidd (isNone_no p W h)
  clear h
  go_enter Try.func16, Try.ntmps16
  go_wp2_with fail
  refine ci.out.mono ?_
  rintro e w1 ⟨rfl, rfl⟩
  go_wp2_with fail
  go_ret
  exact ⟨rfl, rfl⟩
theorem AdderSum_no (p : Option Addr) (W : World) (h : NoAdder W p) : Calls Try.prog 18 #[.pointer p] W fun e w' => e = .returned (.int .u16 0) ∧ W = w' := by
  have ci := hidd (isNone_no p W h)
  clear h
  go_enter Try.func18, Try.ntmps18
  go_wp2_with fail
  refine ci.out.mono ?_
  rintro e w1 ⟨rfl, rfl⟩
  go_wp2_with fail
  go_ret
  exact ⟨rfl, rfl⟩
theorem Copy_no (p : Option Addr) (W : World) (h : NoAdder W p) : Calls Try.prog 13 #[.pointer p] W fun e w' => e = .returned (.pointer none) ∧ W = w' := by
  have ci := hidd (isNone_no p W h)
  clear h
  go_enter Try.func13, Try.ntmps13
  go_wp2_with fail
  refine ci.out.mono ?_
  rintro e w1 ⟨rfl, rfl⟩
  go_wp2_with fail
  go_ret
  exact ⟨rfl, rfl⟩
set_option maxHeartbeats 2000000 in
theorem nil_walk (A : Option Addr) (L : List Int) (c : Nat) (hc : L.length ≤ c) (hm : c ≤ maxLen) (hb : Bytes L) (w : World) (hl : Lie byV 1 w w.heap.size A L) :
    Calls Try.prog 7 #[.slice A L.length c] w fun e w' => e = .returned (.bool true) ∧ Below w.heap.size w w' := by
  have ck := hidd (fun W => known_any W)
  have cw := hidd (fun p n c W h => Write_no p A n c W h)
  have cs := hidd (fun p W h => AdderSum_no p W h)
  have cc := hidd (fun p W h => Copy_no p W h)
  clear hl hb
  by_cases hb : L.length ≤ 100
  · have h1 : ¬ ((L.length : Int) > 100) := by omega
    clear hb
    go_enter Try.func7, Try.ntmps7
    go_wp2_with fail
    obtain ⟨W, hW⟩ : ∃ W : World, w.alloc (.cells #[.int .u8 0, .bool false, .int .u16 0, .bool false] 51) = W := ⟨_, rfl⟩
    have n0 : NoAdder W none := .inl rfl
    have n1 : NoAdder W (some ⟨w.heap.size, 0, none⟩) := .inr ⟨_, rfl, by rw [← hW]; simp [go_sem]⟩
    have hB : Below w.heap.size w W := by rw [← hW]; (repeat' (first | (with_reducible exact Below.refl _ _) | (with_reducible assumption) | (with_reducible apply Below.setCell) | (with_reducible apply Below.alloc) | (with_reducible apply Below.drew) | (with_reducible apply below_drewN) | (with_reducible refine Below.trans ?_ (Below.mono (by assumption) ?_)) | omega | (simp; done) | (simp; omega)))
    rw [hW]
    have N0 := hidd n0
    have N1 := hidd n1
    have HB := hidd hB
    clear n0 n1 hB hW
    refine (cw.out _ _ _ _ N0.out).mono ?_
    rintro e w1 ⟨rfl, rfl⟩
    go_wp2_with fail
    refine (cw.out _ _ _ _ N1.out).mono ?_
    rintro e w1 ⟨rfl, rfl⟩
    go_wp2_with fail
    refine (cs.out _ _ N0.out).mono ?_
    rintro e w1 ⟨rfl, rfl⟩
    go_wp2_with fail
    refine (cs.out _ _ N1.out).mono ?_
    rintro e w1 ⟨rfl, rfl⟩
    go_wp2_with fail
    refine (cc.out _ _ N1.out).mono ?_
    rintro e w1 ⟨rfl, rfl⟩
    go_wp2_with fail
    refine (ck.out _).mono ?_
    rintro e w2 ⟨rfl, hb2⟩
    have HB2 := hidd (below_step HB.out hb2)
    clear hb2
    go_wp2_with fail
    go_ret
    exact ⟨rfl, HB2.out⟩
  · have h1 : (L.length : Int) > 100 := by omega
    clear hb
    go_enter Try.func7, Try.ntmps7
    go_wp2_with fail
    refine (ck.out _).mono ?_
    rintro e w2 ⟨rfl, hb2⟩
    go_wp2_with fail
    go_ret
    exact ⟨rfl, hb2⟩
end Go.Proofs.Ytmpiobpgjlceaaa
