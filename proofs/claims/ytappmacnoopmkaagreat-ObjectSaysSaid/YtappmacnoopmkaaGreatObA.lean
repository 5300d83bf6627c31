/- Objects: numbers and words; what gives up; the small functions of the program. -/
import Derived.Test.YtappmacnoopmkaaGreatCkA
import Derived.Defers
import Derived.Recover
namespace Go.Proofs.YtappmacnoopmkaaGreat
set_option linter.unusedVariables false
open Go.RowKit

@[reducible] def errPanic (k : Int) : Ending := .panicked [{ v := .iface 43 (.int .i64 k), recovered := false }]
/-- a word in memory. -/
def wdV (x : Int) : List Value := [.int .i64 x]
theorem wdV_len (x : Int) : (wdV x).length = 1 := rfl
theorem wdV_one (x : Int) : ∀ u ∈ wdV x, u.oneCell' = true := fun u hu => by
  simp [wdV] at hu; subst hu; rfl
theorem Lie.word {w : World} {B : Nat} {A : Option Addr} {l : List Int} (h : Lie wdV 1 w B A l) (i : Nat) (hi : i < l.length) :
    ∃ ad, A = some ad ∧ ad.block < B ∧ w.cell? (ad.add i) = some (.int .i64 (av l i)) := by
  obtain ⟨ad, e, hB, hc⟩ := h (by omega)
  refine ⟨ad, e, hB, ?_⟩
  have := hc i l[i] (by simp [hi]) 0 _ rfl
  rw [av_at hi]
  simpa using this
theorem LieQ.word {w : World} {p : Nat → Prop} {A : Option Addr} {l : List Int} (h : LieQ wdV 1 w p A l) (i : Nat) (hi : i < l.length) :
    ∃ ad, A = some ad ∧ p ad.block ∧ w.cell? (ad.add i) = some (.int .i64 (av l i)) := by
  obtain ⟨ad, e, hB, hc⟩ := h (by omega)
  refine ⟨ad, e, hB, ?_⟩
  have := hc i l[i] (by simp [hi]) 0 _ rfl
  rw [av_at hi]
  simpa using this
/-- a number lies between two others. -/
def inB (a n b : Int) : Bool := decide (a ≤ n) && decide (n ≤ b)
theorem inB_iff {a n b : Int} : inB a n b = true ↔ a ≤ n ∧ n ≤ b := by simp [inB]
def wordB (x : Int) : Bool := inB 0 x 4294967295
theorem wordB_iff {x : Int} : wordB x = true ↔ 0 ≤ x ∧ x ≤ 4294967295 := inB_iff
/-- an object: its Class, its Type, the value of its Words, its Words. -/
structure Ob where
  c : Int
  t : Int
  v : Value
  ws : List Int
def obV (o : Ob) : List Value := [.int .i64 o.c, .int .i64 o.t, o.v]
theorem obV_len (o : Ob) : (obV o).length = 3 := rfl
def rightB (c t : Int) (ws : List Int) : Bool := inB 0 c 255 && (inB 0 t 255 && (inB 1 ws.length 64 && ws.all wordB))
def HeldO (W : World) (p : Nat → Prop) (o : Ob) : Prop := ∃ A k, o.v = .slice A o.ws.length k ∧ LieQ wdV 1 W p A o.ws
def Obs (W : World) (p : Nat → Prop) (A : Option Addr) (l : List Ob) : Prop := LieQ obV 3 W p A l ∧ ∀ o ∈ l, HeldO W p o
theorem HeldO.to {W W' : World} {p p' : Nat → Prop} {o : Ob} (h : HeldO W p o) (hp : ∀ k, p k → p' k ∧ W'.heap[k]? = W.heap[k]?) : HeldO W' p' o := by
  obtain ⟨A, k, e, hl⟩ := h; exact ⟨A, k, e, hl.to hp⟩
theorem Obs.to {W W' : World} {p p' : Nat → Prop} {A : Option Addr} {l : List Ob} (h : Obs W p A l) (hp : ∀ k, p k → p' k ∧ W'.heap[k]? = W.heap[k]?) : Obs W' p' A l :=
  ⟨h.1.to hp, fun o ho => (h.2 o ho).to hp⟩
theorem Obs.below {W W' : World} {A : Option Addr} {l : List Ob} (h : Obs W (· < W.heap.size) A l) (hb : Below W.heap.size W W') : Obs W' (· < W'.heap.size) A l :=
  h.to fun k hk => ⟨Nat.lt_of_lt_of_le hk hb.size, hb.block k hk⟩
theorem LieQ.below {α : Type} {f : α → List Value} {sz : Nat} {W W' : World} {A : Option Addr} {l : List α} (h : LieQ f sz W (· < W.heap.size) A l) (hb : Below W.heap.size W W') : LieQ f sz W' (· < W'.heap.size) A l :=
  h.to fun k hk => ⟨Nat.lt_of_lt_of_le hk hb.size, hb.block k hk⟩
theorem Obs.at_ {W : World} {p : Nat → Prop} {A : Option Addr} {l : List Ob} (h : Obs W p A l) (i : Nat) (hi : i < l.length) :
    ∃ ad, A = some ad ∧ p ad.block ∧ W.cell? (ad.add (i * 3)) = some (.int .i64 l[i].c) ∧ W.cell? (ad.add (i * 3 + 1)) = some (.int .i64 l[i].t) ∧ W.cell? (ad.add (i * 3 + 2)) = some l[i].v := by
  obtain ⟨ad, e, hb, hc⟩ := h.1 (by omega)
  have hx : l[i]? = some l[i] := by simp [hi]
  exact ⟨ad, e, hb, hc i _ hx 0 _ rfl, hc i _ hx 1 _ rfl, hc i _ hx 2 _ rfl⟩
theorem add_plain3 (ad : Addr) (i j : Nat) : ad.add (i * 3 + (j + 1)) = ⟨(ad.add (i * 3)).block, (ad.add (i * 3)).off + (j + 1), none⟩ := by
  unfold Addr.add
  by_cases h : i * 3 = 0
  · have h0 : i = 0 := by omega
    subst h0
    simp
  · have h1 : ¬ (i * 3 + (j + 1) = 0) := by omega
    simp [h, Nat.add_assoc]

theorem need_yes (k : Int) (w : World) : Calls Tryz.prog 88 #[.bool true, .int .i64 k] w fun e w' => e = .returned (.tuple #[]) ∧ w = w' := by
  go_enter Tryz.func88, Tryz.ntmps88
  go_wp2_with fail
  first | exact ⟨rfl, rfl, rfl⟩ | simp [bodyPost, results, Tryz.results88]
theorem need_no (k : Int) (w : World) : Calls Tryz.prog 88 #[.bool false, .int .i64 k] w fun e w' => e = errPanic k ∧ w = w' := by
  go_enter Tryz.func88, Tryz.ntmps88
  go_wp2_with fail
  exact ⟨rfl, rfl, rfl⟩
theorem isFrom_any (a n b : Int) (w : World) : Calls Tryz.prog 103 #[.int .i64 a, .int .i64 n, .int .i64 b] w fun e w' => e = .returned (.bool (inB a n b)) ∧ w = w' := by
  by_cases h1 : a ≤ n
  · go_enter Tryz.func103, Tryz.ntmps103
    go_wp2_with fail
    go_ret
    exact ⟨ret_bool (by simp [inB, h1]), rfl⟩
  · go_enter Tryz.func103, Tryz.ntmps103
    go_wp2_with fail
    go_ret
    exact ⟨ret_bool (by simp [inB]; omega), rfl⟩
theorem isNoWord_any (x : Int) (w : World) : Calls Tryz.prog 160 #[.int .i64 x] w fun e w' => e = .returned (.bool (!wordB x)) ∧ w = w' := by
  have c := hidd (fun W => isFrom_any 0 x 4294967295 W)
  go_enter Tryz.func160, Tryz.ntmps160
  go_wp2_with fail
  refine (c.out _).mono ?_
  rintro e w1 ⟨rfl, rfl⟩
  go_wp2_with fail
  go_ret
  exact ⟨rfl, rfl⟩
theorem isNode_any (x : Int) (w : World) : Calls Tryz.prog 94 #[.int .i64 x] w fun e w' => e = .returned (.bool (inB 0 x 15)) ∧ w = w' := by
  have c := hidd (fun W => isFrom_any 0 x 15 W)
  go_enter Tryz.func94, Tryz.ntmps94
  go_wp2_with fail
  refine (c.out _).mono ?_
  rintro e w1 ⟨rfl, rfl⟩
  go_wp2_with fail
  go_ret
  exact ⟨rfl, rfl⟩
theorem isPort_any (x : Int) (w : World) : Calls Tryz.prog 95 #[.int .i64 x] w fun e w' => e = .returned (.bool (inB 1 x 65535)) ∧ w = w' := by
  have c := hidd (fun W => isFrom_any 1 x 65535 W)
  go_enter Tryz.func95, Tryz.ntmps95
  go_wp2_with fail
  refine (c.out _).mono ?_
  rintro e w1 ⟨rfl, rfl⟩
  go_wp2_with fail
  go_ret
  exact ⟨rfl, rfl⟩
theorem object_any (a b : Int) (A : Option Addr) (n c : Nat) (w : World) : Calls Tryz.prog 97 #[.int .i64 a, .int .i64 b, .slice A n c] w fun e w' => e = .returned (.agg #[.int .i64 a, .int .i64 b, .slice A n c]) ∧ Below w.heap.size w w' := by
  go_enter Tryz.func97, Tryz.ntmps97
  go_wp2_with fail
  exact bodyPost_ret (v := .agg #[.int .i64 a, .int .i64 b, .slice A n c]) (by simp [results, Tryz.results97, go_sem, *]) rfl ⟨rfl, by (repeat' (first | (with_reducible exact Below.refl _ _) | (with_reducible assumption) | (with_reducible apply Below.setCell) | (with_reducible apply Below.alloc) | (with_reducible apply Below.drew) | (with_reducible apply below_drewN) | (with_reducible refine Below.trans ?_ (Below.mono (by assumption) ?_)) | omega | (simp; done) | (simp; omega)))⟩
end Go.Proofs.YtappmacnoopmkaaGreat
