/- The curves' texts, as far as they are wanted here, in a namespace of their own (so that they stand beside the texts of rat). -/
import Derived.Test.YtokcalmmmfakcaaGreatRows
import Derived.WalkKit
import Derived.WalkSpells
import Derived.WalkLawsBesides
import Derived.BigQuiet
import Derived.Deep.QuietTactic
import Derived.Deep.LoopGhost
import Derived.Deep.DeepCutAuto
import Derived.Deep.RegionHeld3
import Derived.ScopeJumps
import Derived.WalkMore
import Derived.IntWalk
import Derived.ProofKit
import Derived.OpenShut
import Derived.ChangeSame
import Derived.JoinedOf
import Derived.JoinedAt
import Derived.Carry
import Derived.Deep.Slices
import Derived.Deep.Fields
import Derived.Lib.SmallJoins
import Derived.Laws.Rows
import Derived.BigRegion
import Derived.Deep.AppendLies
import Derived.RegionTactic
import Derived.RangeFuncNested
import Derived.RangeFuncBound
import Derived.RangeFuncCalls
import Derived.RangeFuncLeaves
import Derived.RangeFuncBox
import Derived.Shelf.Abstract
import Derived.Shelf.RegionOpen
import Derived.OwnWalkIn
import Derived.TacticsInMore
import Derived.LoopNIn
import Derived.LoopIn
import Derived.Shelf.SlSortCmp.InsertionK
import Derived.Sort.LotA
import Derived.Maps.AppendAt
import Derived.Test.YtokcalmmmfakcaaGreatShelfS
import Derived.Deep.Quiet
import Derived.KernelRfl
import Derived.Test.YtokcalmmmfakcaaGreatProg
set_option linter.unusedVariables false
namespace Go.Proofs.YtokcalmmmfakcaaGreat.Zp
open Go.RowKit

theorem hidd {p : Prop} (h : p) : Hid p := h
theorem bcell {W w1 : World} (hb : Below W.heap.size W w1) : (∀ b o, b < W.heap.size → w1.cell? ⟨b, o, none⟩ = W.cell? ⟨b, o, none⟩) ∧ (∀ b o, b < W.heap.size → w1.frozen? ⟨b, o, none⟩ = W.frozen? ⟨b, o, none⟩) :=
  ⟨fun b o h => hb.cell (p := ⟨b, o, none⟩) h, fun b o h => hb.frozen (p := ⟨b, o, none⟩) h⟩
theorem below_step {w a b : World} (t : Below w.heap.size w a) (h : Below a.heap.size a b) : Below w.heap.size w b := t.trans (h.mono t.size)
theorem below_new {w a : World} (t : Below w.heap.size w a) (o : Obj) : Below w.heap.size w (a.alloc o) := t.alloc t.size o
theorem ret_bool {a b : Bool} (h : a = b) : Ending.returned (.bool a) = .returned (.bool b) := by rw [h]

theorem wp_scope_fwd {P : Program} {a : Act} {w : World} {Q : Exit → Act → World → Prop} {c rest : Code} (l : Nat) (J : Act → World → Prop) (hf : findLabel c l = some rest)
    (first : c.wp P (Exit.jump l J Q) a w) (pass : ∀ a w, J a w → rest.wp P (Exit.noGoto Q) a w) : (Code.scope c).wp P Q a w :=
  wp_scope_jumps l J (fun _ _ => 0) hf first fun a w h => wp_mono (pass a w h) fun e a w hq => by
    cases e <;> first | exact hq | exact hq.elim

/-- may a spec be. -/
def rightB (p r u m l : Int) : Bool := decide (1 ≤ r ∧ r ≤ p ∧ p ≤ 1000000 ∧ 1 ≤ l ∧ l ≤ m ∧ m ≤ 2000 ∧ m ≤ u ∧ u ≤ 10000000)
theorem rightB_iff {p r u m l : Int} (h : rightB p r u m l = true) : 1 ≤ r ∧ r ≤ p ∧ p ≤ 1000000 ∧ 1 ≤ l ∧ l ≤ m ∧ m ≤ 2000 ∧ m ≤ u ∧ u ≤ 10000000 := of_decide_eq_true h
/-- the k-th of what it must. -/
def mustB (p r u m l : Int) : Nat → Bool
  | 0 => decide (1 ≤ r) | 1 => decide (r ≤ p) | 2 => decide (p ≤ 1000000) | 3 => decide (1 ≤ l) | 4 => decide (l ≤ m) | 5 => decide (m ≤ 2000) | 6 => decide (m ≤ u) | _ => decide (u ≤ 10000000)
theorem rightB_musts (p r u m l : Int) : rightB p r u m l = true ↔ ∀ k, k < 8 → mustB p r u m l k = true := by
  constructor
  · intro h k hk
    have := rightB_iff h
    match k, hk with
    | 0, _ | 1, _ | 2, _ | 3, _ | 4, _ | 5, _ | 6, _ | 7, _ => simp only [mustB, decide_eq_true_eq]; omega
  · intro h
    have h0 := h 0 (by omega)
    have h1 := h 1 (by omega)
    have h2 := h 2 (by omega)
    have h3 := h 3 (by omega)
    have h4 := h 4 (by omega)
    have h5 := h 5 (by omega)
    have h6 := h 6 (by omega)
    have h7 := h 7 (by omega)
    simp only [mustB, decide_eq_true_eq] at h0 h1 h2 h3 h4 h5 h6 h7
    exact decide_eq_true ⟨h0, h1, h2, h3, h4, h5, h6, h7⟩

end Go.Proofs.YtokcalmmmfakcaaGreat.Zp

namespace Go.Proofs.YtokcalmmmfakcaaGreat.Zp
open Go.RowKit

end Go.Proofs.YtokcalmmmfakcaaGreat.Zp

namespace Go.Proofs.YtokcalmmmfakcaaGreat.Zp
open Go.RowKit

end Go.Proofs.YtokcalmmmfakcaaGreat.Zp

namespace Go.Proofs.YtokcalmmmfakcaaGreat.Zp
open Go.RowKit

end Go.Proofs.YtokcalmmmfakcaaGreat.Zp

namespace Go.Proofs.YtokcalmmmfakcaaGreat.Zp
namespace SM

/-- what is kept of a line, one sending on. -/
def more (rate kept now a s : Int) : Int := max (kept - rate * (a - now)) 0 + s
end SM
end Go.Proofs.YtokcalmmmfakcaaGreat.Zp

namespace Go.Proofs.YtokcalmmmfakcaaGreat.Zp
open Go.RowKit

theorem block_of_add (a : Addr) (n : Nat) : (a.add n).block = a.block := by unfold Addr.add; split <;> rfl
theorem add_of_add (a : Addr) (i j : Nat) : (a.add i).add j = a.add (i + j) := by
  unfold Addr.add
  by_cases hi : i = 0 <;> by_cases hj : j = 0 <;> simp [hi, hj, Nat.add_assoc]
/-- a list lies in memory below block B, each of it in 'sz' cells. -/
def Lie {α : Type} (f : α → List Value) (sz : Nat) (w : World) (B : Nat) (A : Option Addr) (l : List α) : Prop :=
  0 < l.length → ∃ ad, A = some ad ∧ ad.block < B ∧ ∀ i x, l[i]? = some x → ∀ j v, (f x)[j]? = some v → w.cell? (ad.add (i * sz + j)) = some v
theorem Lie.keep {α : Type} {f : α → List Value} {sz : Nat} {w w' : World} {B : Nat} {A : Option Addr} {l : List α} (h : Lie f sz w B A l) (hb : Below B w w') : Lie f sz w' B A l := fun hl => by
  obtain ⟨ad, e, hB, hc⟩ := h hl
  exact ⟨ad, e, hB, fun i x hx j v hv => (hb.cell (by rw [block_of_add]; exact hB)).trans (hc i x hx j v hv)⟩
theorem Lie.more {α : Type} {f : α → List Value} {sz : Nat} {w : World} {B B' : Nat} {A : Option Addr} {l : List α} (h : Lie f sz w B A l) (hb : B ≤ B') : Lie f sz w B' A l := fun hl => by
  obtain ⟨ad, e, hB, hc⟩ := h hl
  exact ⟨ad, e, Nat.lt_of_lt_of_le hB hb, hc⟩
theorem Lie.below {α : Type} {f : α → List Value} {sz : Nat} {w w' : World} {A : Option Addr} {l : List α} (h : Lie f sz w w.heap.size A l) (hb : Below w.heap.size w w') : Lie f sz w' w'.heap.size A l :=
  (h.keep hb).more hb.size
theorem Lie.nil {α : Type} {f : α → List Value} {sz : Nat} {w : World} {B : Nat} {A : Option Addr} : Lie f sz w B A [] := fun h => absurd h (by simp)
def sendV (x : Int × Int) : List Value := [.int .i64 x.1, .int .i64 x.2]
theorem Lie.send {w : World} {B : Nat} {A : Option Addr} {l : List (Int × Int)} (h : Lie sendV 2 w B A l) (i : Nat) (hi : i < l.length) :
    ∃ ad, A = some ad ∧ ad.block < B ∧ w.cell? (ad.add (i * 2)) = some (.int .i64 l[i].1) ∧ w.cell? ⟨(ad.add (i * 2)).block, (ad.add (i * 2)).off + 1, none⟩ = some (.int .i64 l[i].2) := by
  obtain ⟨ad, e, hB, hc⟩ := h (by omega)
  have hx : l[i]? = some l[i] := List.getElem?_eq_getElem hi
  refine ⟨ad, e, hB, hc i _ hx 0 _ rfl, ?_⟩
  have := hc i _ hx 1 _ rfl
  rw [← add_of_add] at this
  exact this

end Go.Proofs.YtokcalmmmfakcaaGreat.Zp

namespace Go.Proofs.YtokcalmmmfakcaaGreat.Zp
open Go.RowKit

end Go.Proofs.YtokcalmmmfakcaaGreat.Zp

namespace Go.Proofs.YtokcalmmmfakcaaGreat.Zp
open Go.RowKit

end Go.Proofs.YtokcalmmmfakcaaGreat.Zp

namespace Go.Proofs.YtokcalmmmfakcaaGreat.Zp
open Go.RowKit

/-- a spec lies in block b. -/
def HasSpec (w : World) (b : Nat) (p r u m l : Int) : Prop :=
  b < w.heap.size ∧ w.cell? ⟨b, 0, none⟩ = some (.int .i64 p) ∧ w.cell? ⟨b, 1, none⟩ = some (.int .i64 r) ∧ w.cell? ⟨b, 2, none⟩ = some (.int .i64 u) ∧ w.cell? ⟨b, 3, none⟩ = some (.int .i64 m) ∧ w.cell? ⟨b, 4, none⟩ = some (.int .i64 l)
section
variable {w w' : World} {b : Nat} {p r u m l : Int}
theorem HasSpec.step (h : HasSpec w b p r u m l) (hb : Below w.heap.size w w') : HasSpec w' b p r u m l :=
  ⟨Nat.lt_of_lt_of_le h.1 hb.size, (hb.cell h.1).trans h.2.1, (hb.cell h.1).trans h.2.2.1, (hb.cell h.1).trans h.2.2.2.1, (hb.cell h.1).trans h.2.2.2.2.1, (hb.cell h.1).trans h.2.2.2.2.2⟩
theorem HasSpec.new (w : World) (t : TypeId) (p r u m l : Int) : HasSpec (w.alloc (.cells #[.int .i64 p, .int .i64 r, .int .i64 u, .int .i64 m, .int .i64 l] t)) w.heap.size p r u m l :=
  ⟨by simp, by simp [go_sem], by simp [go_sem], by simp [go_sem], by simp [go_sem], by simp [go_sem]⟩
theorem HasSpec.drew (h : HasSpec w b p r u m l) (n : Nat) : HasSpec (w.drewN n) b p r u m l := h
end

end Go.Proofs.YtokcalmmmfakcaaGreat.Zp

namespace Go.Proofs.YtokcalmmmfakcaaGreat.Zp
namespace RowK
open Go.ChangeShapes Go.WideShapes Go.ChangeAt Go.RowKit Go.Joins Go.Deep

section
variable {H : Type} {enc : TypeId × Value → H} {P : Program}
end

section
variable {H : Type} {enc : TypeId × Value → H} {P : Program} {w : World} {base : Nat} {spare : Nat → Bool} {held : Bool}
end
abbrev Spc := Int × Int × Int × Int × Int
def specV (x : Spc) : List Value := [.int .i64 x.1, .int .i64 x.2.1, .int .i64 x.2.2.1, .int .i64 x.2.2.2.1, .int .i64 x.2.2.2.2]
section
variable {H : Type} {enc : TypeId × Value → H} {w : World} {base : Nat} {spare : Nat → Bool} {held : Bool} {fuel : Nat}
end
section
variable {H : Type} {enc : TypeId × Value → H} {P : Program} {w : World} {base : Nat} {spare : Nat → Bool} {held : Bool}
end
end RowK
end Go.Proofs.YtokcalmmmfakcaaGreat.Zp

namespace Go.Proofs.YtokcalmmmfakcaaGreat.Zp
open Go.RowKit Go.Proofs.YtokcalmmmfakcaaGreat.Zp.RowK

end Go.Proofs.YtokcalmmmfakcaaGreat.Zp

namespace Go.Proofs.YtokcalmmmfakcaaGreat.Zp
open Go.RowKit Go.Proofs.YtokcalmmmfakcaaGreat.Zp.RowK

def spAt (L : List Spc) (i : Nat) : Spc := L.getD i (0, 0, 0, 0, 0)
theorem spAt_get {L : List Spc} {i : Nat} (h : i < L.length) : L[i] = spAt L i := by
  simp [spAt, List.getD_eq_getElem?_getD, List.getElem?_eq_getElem h]
theorem Lie.spec {w : World} {B : Nat} {A : Option Addr} {l : List Spc} (h : Lie specV 5 w B A l) (i : Nat) (hi : i < l.length) :
    ∃ ad, A = some ad ∧ (ad.add (i * 5)).block < B ∧ w.cell? (ad.add (i * 5)) = some (.int .i64 (spAt l i).1) ∧ w.cell? ⟨(ad.add (i * 5)).block, (ad.add (i * 5)).off + 1, none⟩ = some (.int .i64 (spAt l i).2.1) ∧
      w.cell? ⟨(ad.add (i * 5)).block, (ad.add (i * 5)).off + 2, none⟩ = some (.int .i64 (spAt l i).2.2.1) ∧ w.cell? ⟨(ad.add (i * 5)).block, (ad.add (i * 5)).off + 3, none⟩ = some (.int .i64 (spAt l i).2.2.2.1) ∧ w.cell? ⟨(ad.add (i * 5)).block, (ad.add (i * 5)).off + 4, none⟩ = some (.int .i64 (spAt l i).2.2.2.2) := by
  obtain ⟨ad, e, hB, hc⟩ := h (by omega)
  have hx : l[i]? = some l[i] := List.getElem?_eq_getElem hi
  rw [← spAt_get hi]
  have h0 := hc i _ hx 0 _ rfl
  have h1 := hc i _ hx 1 _ rfl
  have h2 := hc i _ hx 2 _ rfl
  have h3 := hc i _ hx 3 _ rfl
  have h4 := hc i _ hx 4 _ rfl
  rw [← add_of_add] at h1 h2 h3 h4
  exact ⟨ad, e, by rw [block_of_add]; exact hB, h0, h1, h2, h3, h4⟩

end Go.Proofs.YtokcalmmmfakcaaGreat.Zp

namespace Go.Proofs.YtokcalmmmfakcaaGreat.Zp
open Go.RowKit Go.Proofs.YtokcalmmmfakcaaGreat.Zp.RowK

/-- a box of a spec that may be written. -/
def Box (w : World) (b : Nat) (x : Spc) : Prop :=
  HasSpec w b x.1 x.2.1 x.2.2.1 x.2.2.2.1 x.2.2.2.2 ∧ w.frozen? ⟨b, 0, none⟩ = false ∧ w.frozen? ⟨b, 1, none⟩ = false ∧ w.frozen? ⟨b, 2, none⟩ = false ∧ w.frozen? ⟨b, 3, none⟩ = false ∧ w.frozen? ⟨b, 4, none⟩ = false
theorem Box.step {w w' : World} {b : Nat} {x : Spc} (h : Box w b x) (hb : Below w.heap.size w w') : Box w' b x := by
  have hz := h.1.1
  exact ⟨h.1.step hb, (hb.frozen (p := ⟨b, 0, none⟩) hz).trans h.2.1, (hb.frozen (p := ⟨b, 1, none⟩) hz).trans h.2.2.1, (hb.frozen (p := ⟨b, 2, none⟩) hz).trans h.2.2.2.1, (hb.frozen (p := ⟨b, 3, none⟩) hz).trans h.2.2.2.2.1, (hb.frozen (p := ⟨b, 4, none⟩) hz).trans h.2.2.2.2.2⟩
theorem Box.new (w : World) (t : TypeId) (p r u m l : Int) : Box (w.alloc (.cells #[.int .i64 p, .int .i64 r, .int .i64 u, .int .i64 m, .int .i64 l] t)) w.heap.size (p, r, u, m, l) :=
  ⟨HasSpec.new w t p r u m l, by simp [go_sem], by simp [go_sem], by simp [go_sem], by simp [go_sem], by simp [go_sem]⟩

end Go.Proofs.YtokcalmmmfakcaaGreat.Zp

namespace Go.Proofs.YtokcalmmmfakcaaGreat.Zp
open Go.RowKit Go.Proofs.YtokcalmmmfakcaaGreat.Zp.RowK

end Go.Proofs.YtokcalmmmfakcaaGreat.Zp

namespace Go.Proofs.YtokcalmmmfakcaaGreat.Zp
open Go.RowKit Go.Proofs.YtokcalmmmfakcaaGreat.Zp.RowK

end Go.Proofs.YtokcalmmmfakcaaGreat.Zp

namespace Go.Proofs.YtokcalmmmfakcaaGreat.Zp
open Go.RowKit Go.Proofs.YtokcalmmmfakcaaGreat.Zp.RowK

end Go.Proofs.YtokcalmmmfakcaaGreat.Zp

namespace Go.Proofs.YtokcalmmmfakcaaGreat.Zp
namespace SM

section
variable (a s : Nat → Int)
/-- how many bytes are sent ahead of the i-th. -/
def S : Nat → Int
  | 0 => 0
  | i + 1 => S i + s i
def now : Nat → Int
  | 0 => 0
  | i + 1 => a i
def K (rate : Int) : Nat → Int
  | 0 => 0
  | i + 1 => more rate (K rate i) (now a i) (a i) (s i)
variable {a s}
end
def av (L : List (Int × Int)) (i : Nat) : Int := (L.getD i (0, 0)).1
def sv (L : List (Int × Int)) (i : Nat) : Int := (L.getD i (0, 0)).2
end SM
end Go.Proofs.YtokcalmmmfakcaaGreat.Zp

namespace Go.Proofs.YtokcalmmmfakcaaGreat.Zp
open Go.RowKit Go.Proofs.YtokcalmmmfakcaaGreat.Zp.RowK

end Go.Proofs.YtokcalmmmfakcaaGreat.Zp

namespace Go.Proofs.YtokcalmmmfakcaaGreat.Zp
namespace SM
theorem av_app {L : List (Int × Int)} {x : Int × Int} {i : Nat} (h : i < L.length) : av (L ++ [x]) i = av L i ∧ sv (L ++ [x]) i = sv L i := by
  simp [av, sv, List.getD_eq_getElem?_getD, List.getElem?_append_left h]
theorem av_last {L : List (Int × Int)} {x : Int × Int} : av (L ++ [x]) L.length = x.1 ∧ sv (L ++ [x]) L.length = x.2 := by
  simp [av, sv, List.getD_eq_getElem?_getD]
end SM
end Go.Proofs.YtokcalmmmfakcaaGreat.Zp

namespace Go.Proofs.YtokcalmmmfakcaaGreat.Zp
set_option linter.unusedVariables false
open Go.RowKit Go.Proofs.YtokcalmmmfakcaaGreat.Zp.RowK

theorem av_at {L : List (Int × Int)} {i : Nat} (h : i < L.length) : L[i].1 = SM.av L i ∧ L[i].2 = SM.sv L i := by
  simp [SM.av, SM.sv, List.getD_eq_getElem?_getD, List.getElem?_eq_getElem h]
end Go.Proofs.YtokcalmmmfakcaaGreat.Zp

namespace Go.Proofs.YtokcalmmmfakcaaGreat.Zp
set_option linter.unusedVariables false
open Go.RowKit Go.Proofs.YtokcalmmmfakcaaGreat.Zp.RowK

section
variable {α : Type} {f : α → List Value} {sz : Nat}
def rowOf (f : α → List Value) (L : List α) : List Value := L.flatMap f
theorem row_len (hf : ∀ x, (f x).length = sz) : ∀ L : List α, (rowOf f L).length = L.length * sz
  | [] => by simp [rowOf]
  | x :: L => by
    have := row_len hf L
    simp only [rowOf, List.flatMap_cons, List.length_append, List.length_cons] at *
    rw [this, hf, Nat.add_mul]
    omega
theorem row_at (hf : ∀ x, (f x).length = sz) : ∀ (L : List α) (i : Nat) (x : α), L[i]? = some x → ∀ (j : Nat) (v : Value), (f x)[j]? = some v → (rowOf f L)[i * sz + j]? = some v
  | [], i, x, h, _, _, _ => by simp at h
  | y :: L, 0, x, h, j, v, hv => by
    have : y = x := by simpa using h
    subst this
    have hj : j < (f y).length := (List.getElem?_eq_some_iff.1 hv).1
    simp only [rowOf, List.flatMap_cons]
    rw [List.getElem?_append_left (by omega)]
    simpa using hv
  | y :: L, i + 1, x, h, j, v, hv => by
    have h' : L[i]? = some x := by simpa using h
    have ih := row_at hf L i x h' j v hv
    simp only [rowOf, List.flatMap_cons] at *
    have e : (i + 1) * sz = sz + i * sz := by rw [Nat.add_mul]; omega
    rw [e, List.getElem?_append_right (by rw [hf]; omega), hf]
    have e2 : sz + i * sz + j - sz = i * sz + j := by omega
    rw [e2]
    exact ih
theorem row_snoc (f : α → List Value) (L : List α) (x : α) : rowOf f (L ++ [x]) = rowOf f L ++ f x := by
  simp [rowOf]
/-- a slice that the call owns holds a list. -/
def OwnL (f : α → List Value) (sz : Nat) (w : World) (base : Nat) (e : TypeId) (v : Value) (L : List α) : Prop := w.ownsRow base e sz v L.length (rowOf f L)
theorem OwnL.lie {w : World} {base : Nat} {e : TypeId} {v : Value} {L : List α} (h : OwnL f sz w base e v L) (hf : ∀ x, (f x).length = sz) : ∃ A c, v = .slice A L.length c ∧ L.length ≤ c ∧ c ≤ maxLen ∧ Lie f sz w w.heap.size A L := by
  rcases h.2 with ⟨rfl, h0⟩ | ⟨g, cap, cur, rfl, hb, hh, hn, hm, hsz, ht⟩
  · have : L = [] := List.eq_nil_of_length_eq_zero h0
    subst this
    exact ⟨none, 0, rfl, by simp, by simp [maxLen], Lie.nil⟩
  · refine ⟨_, cap, rfl, hn, hm, fun hl => ⟨_, rfl, ?_, fun i x hx j v hv => ?_⟩⟩
    · rcases Nat.lt_or_ge g w.heap.size with hlt | hge
      · exact hlt
      · rw [Array.getElem?_eq_none hge] at hh; cases hh
    · exact World.ownsRow.cells h (g := g) rfl _ _ (row_at hf L i x hx j v hv)
theorem OwnL.below {w w' : World} {base : Nat} {e : TypeId} {v : Value} {L : List α} (h : OwnL f sz w base e v L) (hb : Below w.heap.size w w') : OwnL f sz w' base e v L := by
  refine ⟨h.1, ?_⟩
  rcases h.2 with h0 | ⟨g, cap, cur, rfl, hbs, hh, hr⟩
  · exact .inl h0
  · refine .inr ⟨g, cap, cur, rfl, hbs, ?_, hr⟩
    rw [hb.block g]
    · exact hh
    · rcases Nat.lt_or_ge g w.heap.size with hlt | hge
      · exact hlt
      · rw [Array.getElem?_eq_none hge] at hh; cases hh
theorem OwnL.kept {w w' : World} {base : Nat} {e : TypeId} {v : Value} {L : List α} {row : Option Nat} (h : OwnL f sz w base e v L) (hg : w.grownBy w' row) (hne : v.ownBlock = none ∨ v.ownBlock ≠ row) : OwnL f sz w' base e v L :=
  World.ownsRow.kept h hg hne
theorem OwnL.alloc {w : World} {base : Nat} {e : TypeId} {v : Value} {L : List α} (h : OwnL f sz w base e v L) (o : Obj) : OwnL f sz (w.alloc o) base e v L := World.ownsRow.alloc h o
theorem OwnL.drew {w : World} {base : Nat} {e : TypeId} {v : Value} {L : List α} (h : OwnL f sz w base e v L) : OwnL f sz w.drew base e v L := h
theorem OwnL.snoc {w : World} {base : Nat} {e : TypeId} {v : Value} {L : List α} {x : α} {n : Nat} {xs : List Value} (h : w.ownsRow base e sz v n xs) (hn : n = L.length + 1) (hx : xs = rowOf f L ++ f x) : OwnL f sz w base e v (L ++ [x]) := by
  subst hn hx
  unfold OwnL
  rw [row_snoc]
  simpa using h
theorem OwnL.nil (w : World) (base : Nat) (e : TypeId) : OwnL f sz w base e (.slice none 0 0) [] := World.ownsRow_nil w base e sz
theorem OwnL.lt {w : World} {base : Nat} {e : TypeId} {v : Value} {L : List α} (h : OwnL f sz w base e v L) : ∀ k, v.ownBlock = some k → base ≤ k ∧ k < w.heap.size := World.ownsRow.lt h
end

theorem append_empty {P : Program} (w : World) (base : Nat) (t ty e : TypeId) (i : TypeInfo) (size : Nat) (ht : P.underlying t = some (.slice e)) (hi : P.info? e = some i)
    (v : Value) (n : Nat) (xs : List Value) (hown : w.ownsRow base e size v n xs) (c : Nat) : (Builtin.append_ #[t, t] ty #[v, .slice none 0 c]).run P w = .ok v w := by
  obtain ⟨_, h⟩ := hown
  rcases h with ⟨rfl, _⟩ | ⟨g, cap, cur, rfl, _, _, hnc, _⟩
  · simp [Builtin.append_, run_underlying ht, sizeOf, typeInfo, hi, Builtin.lenOf, Builtin.firstCells]
  · simp [Builtin.append_, run_underlying ht, sizeOf, typeInfo, hi, Builtin.lenOf, Builtin.firstCells, storeCells, hnc]
/-- append of whatever lies there, nothing let in. -/
theorem run_append_some {P : Program} (w : World) (t ty : TypeId) (base : Nat) (e : TypeId) (i : TypeInfo) (z : Value) (size bytes : Nat) (ht : P.underlying t = some (.slice e)) (hi : P.info? e = some i) (hz : i.zero = some z)
    (hsize : i.size = size) (hby : i.bytes = bytes) (hzs : z.cells.size = size) (hsz : 0 < size)
    (v : Value) (n : Nat) (xs : List Value) (hown : w.ownsRow base e size v n xs)
    (A : Option Addr) (m c : Nat) (news : List Value) (hl : news.length = m * size) (hsrc : 0 < m → ∃ ad, A = some ad ∧ ∀ j u, news[j]? = some u → w.cell? (ad.add j) = some u) (h1 : ∀ u ∈ news, u.oneCell' = true)
    (h63 : n + m ≤ maxLen) (hbytes : (n + m) * bytes ≤ 140737488355328) (hbase : base ≤ w.heap.size) :
    ∃ v' w', (Builtin.append_ #[t, t] ty #[v, .slice A m c]).run P w = .ok v' w' ∧ w'.ownsRow base e size v' (n + m) (xs ++ news) ∧ w.grownBy w' v.ownBlock ∧ (v'.ownBlock = v.ownBlock ∨ v'.ownBlock = some w.heap.size) := by
  have hnil : m = 0 → news = [] := fun h => List.eq_nil_of_length_eq_zero (by rw [hl, h, Nat.zero_mul])
  cases A with
  | none =>
    have h0 : m = 0 := by
      rcases Nat.eq_zero_or_pos m with h0 | h0
      · exact h0
      · obtain ⟨ad, e, _⟩ := hsrc h0; cases e
    obtain rfl := hnil h0
    subst h0
    exact ⟨v, w, append_empty w base t ty e i size ht hi v n xs hown c, by simpa using hown, World.grownBy.refl w _, .inl rfl⟩
  | some ad =>
    have hnews : ∀ j u, news[j]? = some u → w.cell? (ad.add j) = some u := by
      intro j u hu
      rcases Nat.eq_zero_or_pos m with h0 | h0
      · rw [hnil h0] at hu; simp at hu
      · obtain ⟨ad', e, hc⟩ := hsrc h0
        obtain rfl : ad = ad' := by injection e
        exact hc j u hu
    obtain ⟨v', w', hr, h2, h3, _, h5⟩ := run_append_own_at (P := P) w base t ty e i z size bytes ht hi hz hsize hby hzs hsz v n xs hown ad m c news hl hnews h1 h63 hbytes hbase
    exact ⟨v', w', hr, h2, h3, h5⟩
theorem wp_append_some {P : Program} {w : World} {o : Oper} {a : Act} {K : Act → World → Prop} {Q : Exit → Act → World → Prop} (s x : Operand) (t : TypeId)
    (ho : o.op = .call { callee := .builtin .append, args := #[s, x], argTypes := #[t, t] })
    (base : Nat) (e : TypeId) (i : TypeInfo) (z : Value) (size bytes : Nat) (ht : P.underlying t = some (.slice e)) (hi : P.info? e = some i) (hz : i.zero = some z)
    (hsize : i.size = size) (hby : i.bytes = bytes) (hzs : z.cells.size = size) (hsz : 0 < size)
    (v : Value) (n : Nat) (xs : List Value) (hs : a.eval s = v) (hown : w.ownsRow base e size v n xs)
    (A : Option Addr) (m c : Nat) (news : List Value) (hx : a.eval x = .slice A m c) (hl : news.length = m * size) (hsrc : 0 < m → ∃ ad, A = some ad ∧ ∀ j u, news[j]? = some u → w.cell? (ad.add j) = some u) (h1 : ∀ u ∈ news, u.oneCell' = true)
    (h63 : n + m ≤ maxLen) (hbytes : (n + m) * bytes ≤ 140737488355328) (hbase : base ≤ w.heap.size)
    (h : ∀ v' w', w'.ownsRow base e size v' (n + m) (xs ++ news) → w.grownBy w' v.ownBlock → (v'.ownBlock = v.ownBlock ∨ v'.ownBlock = some w.heap.size) → K (a.put o.dst v') w') : o.wp P a w K Q := by
  obtain ⟨v', w', hr, h2, h3, h4⟩ := run_append_some (P := P) w t o.type base e i z size bytes ht hi hz hsize hby hzs hsz v n xs hown A m c news hl hsrc h1 h63 hbytes hbase
  unfold Oper.wp execOp
  simp only [ho, resolve, invoke, builtin, Sem.run_bind, Sem.run_pure, Result.andThen_ok, List.map_toArray, List.map_cons, List.map_nil, hs, hx, hr]
  exact h v' w' h2 h3 h4
theorem wpList_append_some {P : Program} {w : World} {ops : Array Oper} {rest : List Oper} {o : Oper} {a : Act} {Q : Exit → Act → World → Prop} (hgd : o.guard = none) (s x : Operand) (t : TypeId)
    (ho : o.op = .call { callee := .builtin .append, args := #[s, x], argTypes := #[t, t] })
    (base : Nat) (e : TypeId) (i : TypeInfo) (z : Value) (size bytes : Nat) (ht : P.underlying t = some (.slice e)) (hi : P.info? e = some i) (hz : i.zero = some z)
    (hsize : i.size = size) (hby : i.bytes = bytes) (hzs : z.cells.size = size) (hsz : 0 < size)
    (v : Value) (n : Nat) (xs : List Value) (hs : a.eval s = v) (hown : w.ownsRow base e size v n xs)
    (A : Option Addr) (m c : Nat) (news : List Value) (hx : a.eval x = .slice A m c) (hl : news.length = m * size) (hsrc : 0 < m → ∃ ad, A = some ad ∧ ∀ j u, news[j]? = some u → w.cell? (ad.add j) = some u) (h1 : ∀ u ∈ news, u.oneCell' = true)
    (h63 : n + m ≤ maxLen) (hbytes : (n + m) * bytes ≤ 140737488355328) (hbase : base ≤ w.heap.size)
    (h : ∀ v' w', w'.ownsRow base e size v' (n + m) (xs ++ news) → w.grownBy w' v.ownBlock → (v'.ownBlock = v.ownBlock ∨ v'.ownBlock = some w.heap.size) → wpList P ops Q rest (a.put o.dst v') w') : wpList P ops Q (o :: rest) a w :=
  wpList_plain hgd fun _ hK => wp_append_some s x t ho base e i z size bytes ht hi hz hsize hby hzs hsz v n xs hs hown A m c news hx hl hsrc h1 h63 hbytes hbase fun v' w' h2 h3 h4 => hK _ _ (h v' w' h2 h3 h4)
theorem sendV_len (x : Int × Int) : (sendV x).length = 2 := rfl
theorem sendV_one (x : Int × Int) : ∀ u ∈ sendV x, u.oneCell' = true := fun u hu => by
  simp [sendV] at hu
  rcases hu with rfl | rfl <;> rfl
end Go.Proofs.YtokcalmmmfakcaaGreat.Zp

namespace Go.Proofs.YtokcalmmmfakcaaGreat.Zp
set_option linter.unusedVariables false
open Go.RowKit Go.Proofs.YtokcalmmmfakcaaGreat.Zp.RowK

def cmpV (a b : Int) : Int := if a < b then -1 else if b < a then 1 else 0
theorem isNaN_any (a : Int) (w : World) : Calls Tryz.prog 151 #[.int .i64 a] w fun e w' => e = .returned (.bool false) ∧ w' = w := by
  go_enter Tryz.func151, Tryz.ntmps151
  go_wp2
  go_ret
  exact ⟨by simp, rfl⟩
theorem compare_any (a b : Int) (w : World) : Calls Tryz.prog 141 #[.int .i64 a, .int .i64 b] w fun e w' => e = .returned (.int .i64 (cmpV a b)) ∧ w' = w := by
  have ca := hidd (fun W => isNaN_any a W)
  have cb := hidd (fun W => isNaN_any b W)
  rcases Int.lt_trichotomy a b with h | h | h
  · have hv : cmpV a b = -1 := by unfold cmpV; rw [if_pos h]
    rw [hv]
    clear hv
    go_enter Tryz.func141, Tryz.ntmps141
    go_wp2_with fail
    refine (ca.out _).mono ?_
    rintro e w' ⟨rfl, rfl⟩
    go_wp2_with fail
    refine (cb.out _).mono ?_
    rintro e w' ⟨rfl, rfl⟩
    go_wp2_with fail
    go_ret
    exact ⟨rfl, rfl⟩
  · subst h
    have hv : cmpV a a = 0 := by unfold cmpV; rw [if_neg (by omega), if_neg (by omega)]
    rw [hv]
    clear hv
    go_enter Tryz.func141, Tryz.ntmps141
    go_wp2_with fail
    refine (ca.out _).mono ?_
    rintro e w' ⟨rfl, rfl⟩
    go_wp2_with fail
    refine (cb.out _).mono ?_
    rintro e w' ⟨rfl, rfl⟩
    go_wp2_with fail
    go_ret
    exact ⟨rfl, rfl⟩
  · have hn : ¬ a < b := by omega
    have hv : cmpV a b = 1 := by unfold cmpV; rw [if_neg hn, if_pos h]
    rw [hv]
    clear hv
    go_enter Tryz.func141, Tryz.ntmps141
    go_wp2_with fail
    refine (ca.out _).mono ?_
    rintro e w' ⟨rfl, rfl⟩
    go_wp2_with fail
    refine (cb.out _).mono ?_
    rintro e w' ⟨rfl, rfl⟩
    go_wp2_with fail
    go_ret
    exact ⟨rfl, rfl⟩
def orV (x y : Int) : Int := if x = 0 then y else x
theorem or_any (x y : Int) (b : Nat) (w : World) (h0 : w.cell? ⟨b, 0, none⟩ = some (.int .i64 x)) (h1 : w.cell? ⟨b, 1, none⟩ = some (.int .i64 y)) :
    Calls Tryz.prog 140 #[.slice (some ⟨b, 0, none⟩) 2 2] w fun e w' => e = .returned (.int .i64 (orV x y)) ∧ w' = w := by
  by_cases hx : x = 0
  · subst hx
    have hv : orV 0 y = y := by unfold orV; rw [if_pos rfl]
    rw [hv]
    clear hv
    by_cases hy : y = 0
    · subst hy
      go_enter Tryz.func140, Tryz.ntmps140
      go_wp2_with fail
      refine wp_loop_rounds 3 ?_
      rw [rounds_succ]
      go_wp2_with fail
      rw [rounds_succ]
      go_wp2_with fail
      rw [rounds_succ]
      go_wp2_with fail
      go_ret
      exact ⟨rfl, rfl⟩
    · have hy2 : (y != 0) = true := by simp [hy]
      clear hy
      go_enter Tryz.func140, Tryz.ntmps140
      go_wp2_with fail
      refine wp_loop_rounds 3 ?_
      rw [rounds_succ]
      go_wp2_with fail
      rw [rounds_succ]
      go_wp2_with fail
      go_ret
      exact ⟨rfl, rfl⟩
  · have hv : orV x y = x := by unfold orV; rw [if_neg hx]
    have hx2 : (x != 0) = true := by simp [hx]
    rw [hv]
    clear hv hx
    go_enter Tryz.func140, Tryz.ntmps140
    go_wp2_with fail
    refine wp_loop_rounds 3 ?_
    rw [rounds_succ]
    go_wp2_with fail
    go_ret
    exact ⟨rfl, rfl⟩
/-- which of two lines is first: by Burst, then by Rate. -/
def lineC (a b : Int × Int) : Int := orV (cmpV a.1 b.1) (cmpV a.2 b.2)
theorem bendOf_any (a0 a1 b0 b1 : Int) (h0 : 0 ≤ a0) (h1 : a0 ≤ 2000000000) (h2 : 0 ≤ a1) (h3 : a1 ≤ 2000000000) (k0 : 0 ≤ b0) (k1 : b0 ≤ 2000000000) (k2 : 0 ≤ b1) (k3 : b1 ≤ 2000000000) (w : World) :
    Calls Tryz.prog 142 #[.agg #[.int .i64 a0, .int .i64 a1], .agg #[.int .i64 b0, .int .i64 b1]] w fun e w' => e = .returned (.agg #[.int .i64 (b0 - a0), .int .i64 (a1 - b1)]) ∧ Below w.heap.size w w' := by
  go_enter Tryz.func142, Tryz.ntmps142
  go_wp2_with fail
  exact bodyPost_ret (v := .agg #[.int .i64 (b0 - a0), .int .i64 (a1 - b1)]) (by simp [results, Tryz.results142, go_sem]) rfl ⟨rfl, by (repeat' (first | (with_reducible exact Below.refl _ _) | (with_reducible assumption) | (with_reducible apply Below.setCell) | (with_reducible apply Below.alloc) | (with_reducible apply Below.drew) | (with_reducible apply below_drewN) | (with_reducible refine Below.trans ?_ (Below.mono (by assumption) ?_)) | omega | (simp; done) | (simp; omega)))⟩
theorem prod_bd {x y : Int} (h0 : -2000000000 ≤ x) (h1 : x ≤ 2000000000) (k0 : -2000000000 ≤ y) (k1 : y ≤ 2000000000) : -4000000000000000000 ≤ x * y ∧ x * y ≤ 4000000000000000000 := by
  have e1 : (x * y).natAbs = x.natAbs * y.natAbs := Int.natAbs_mul x y
  have e2 : x.natAbs * y.natAbs ≤ 2000000000 * 2000000000 := Nat.mul_le_mul (by omega) (by omega)
  omega
theorem against_any (p0 p1 q0 q1 : Int) (hp : -2000000000 ≤ p0 ∧ p0 ≤ 2000000000 ∧ -2000000000 ≤ p1 ∧ p1 ≤ 2000000000) (hq : -2000000000 ≤ q0 ∧ q0 ≤ 2000000000 ∧ -2000000000 ≤ q1 ∧ q1 ≤ 2000000000) (w : World) :
    Calls Tryz.prog 143 #[.agg #[.int .i64 p0, .int .i64 p1], .agg #[.int .i64 q0, .int .i64 q1]] w fun e w' => e = .returned (.int .i64 (cmpV (p0 * q1) (q0 * p1))) ∧ Below w.heap.size w w' := by
  obtain ⟨u0, u1⟩ := prod_bd hp.1 hp.2.1 hq.2.2.1 hq.2.2.2
  obtain ⟨v0, v1⟩ := prod_bd hq.1 hq.2.1 hp.2.2.1 hp.2.2.2
  have c1 := hidd (fun W => compare_any (p0 * q1) (q0 * p1) W)
  have e1 : IntKind.i64.wrap (p0 * q1) = p0 * q1 := IntWalk.i64_in _ (by omega)
  have e2 : IntKind.i64.wrap (q0 * p1) = q0 * p1 := IntWalk.i64_in _ (by omega)
  have f1 : wrap64 (p0 * q1) = p0 * q1 := by rw [← e1]; simp [IntKind.wrap_i64, wrap64]
  have f2 : wrap64 (q0 * p1) = q0 * p1 := by rw [← e2]; simp [IntKind.wrap_i64, wrap64]
  generalize hX : p0 * q1 = X at *
  generalize hY : q0 * p1 = Y at *
  clear hp hq e1 e2 f1 f2
  go_enter Tryz.func143, Tryz.ntmps143
  go_wp2_with fail
  refine (c1.out _).mono ?_
  rintro e w1 ⟨rfl, rfl⟩
  go_wp2_with fail
  go_ret
  exact ⟨rfl, by (repeat' (first | (with_reducible exact Below.refl _ _) | (with_reducible assumption) | (with_reducible apply Below.setCell) | (with_reducible apply Below.alloc) | (with_reducible apply Below.drew) | (with_reducible apply below_drewN) | (with_reducible refine Below.trans ?_ (Below.mono (by assumption) ?_)) | omega | (simp; done) | (simp; omega)))⟩
/-- may a line be. -/
def mayB (x : Int × Int) : Bool := decide (0 ≤ x.1 ∧ x.1 ≤ 1000000000 ∧ 0 ≤ x.2 ∧ x.2 ≤ 1000000000)
theorem mayB_iff {x : Int × Int} (h : mayB x = true) : 0 ≤ x.1 ∧ x.1 ≤ 1000000000 ∧ 0 ≤ x.2 ∧ x.2 ≤ 1000000000 := of_decide_eq_true h
theorem isNoLine_any (a b : Int) (w : World) : Calls Tryz.prog 123 #[.agg #[.int .i64 a, .int .i64 b]] w fun e w' => e = .returned (.bool (!mayB (a, b))) ∧ Below w.heap.size w w' := by
  have hb : ∀ R, mayB (a, b) = R → Hid (R = decide (0 ≤ a ∧ a ≤ 1000000000 ∧ 0 ≤ b ∧ b ≤ 1000000000)) := fun R h => by subst h; exact rfl
  have HB := hb _ rfl
  generalize mayB (a, b) = R at *
  clear hb
  go_enter Tryz.func123, Tryz.ntmps123
  go_wp2_with fail
  all_goals go_ret
  all_goals (refine ⟨ret_bool ?_, by (repeat' (first | (with_reducible exact Below.refl _ _) | (with_reducible assumption) | (with_reducible apply Below.setCell) | (with_reducible apply Below.alloc) | (with_reducible apply Below.drew) | (with_reducible apply below_drewN) | (with_reducible refine Below.trans ?_ (Below.mono (by assumption) ?_)) | omega | (simp; done) | (simp; omega)))⟩; rw [HB.out]; first | (simp [*]; done) | (rw [Bool.eq_iff_iff]; simp [*]; done) | (rw [Bool.eq_iff_iff]; simp [*]; omega) | (simp [*]; omega))
theorem refMay_any (a b : Int) (w : World) : Calls Tryz.prog 57 #[.agg #[.int .i64 a, .int .i64 b]] w fun e w' => e = .returned (.bool (mayB (a, b))) ∧ Below w.heap.size w w' := by
  have hb : ∀ R, mayB (a, b) = R → Hid (R = decide (0 ≤ a ∧ a ≤ 1000000000 ∧ 0 ≤ b ∧ b ≤ 1000000000)) := fun R h => by subst h; exact rfl
  have HB := hb _ rfl
  generalize mayB (a, b) = R at *
  clear hb
  go_enter Tryz.func57, Tryz.ntmps57
  go_wp2_with fail
  all_goals go_ret
  all_goals (refine ⟨ret_bool ?_, by (repeat' (first | (with_reducible exact Below.refl _ _) | (with_reducible assumption) | (with_reducible apply Below.setCell) | (with_reducible apply Below.alloc) | (with_reducible apply Below.drew) | (with_reducible apply below_drewN) | (with_reducible refine Below.trans ?_ (Below.mono (by assumption) ?_)) | omega | (simp; done) | (simp; omega)))⟩; rw [HB.out]; first | (simp [*]; done) | (simp [*]; omega))
end Go.Proofs.YtokcalmmmfakcaaGreat.Zp

namespace Go.Proofs.YtokcalmmmfakcaaGreat.Zp
set_option linter.unusedVariables false
open Go.RowKit Go.Proofs.YtokcalmmmfakcaaGreat.Zp.RowK

set_option maxHeartbeats 2000000 in
theorem equal_any (A B : Option Addr) (L M : List (Int × Int)) (c d : Nat) (hL : L.length ≤ 1000000) (hM : M.length ≤ 1000000) (w : World) (hA : Lie sendV 2 w w.heap.size A L) (hB : Lie sendV 2 w w.heap.size B M) :
    Calls Tryz.prog 124 #[.slice A L.length c, .slice B M.length d] w fun e w' => e = .returned (.bool (decide (L = M))) ∧ ∃ q, w' = w.drewN q := by
  have HA := hidd hA
  have HB := hidd hB
  obtain ⟨R, hR⟩ : ∃ R, decide (L = M) = R := ⟨_, rfl⟩
  rw [hR]
  have HR := hidd hR
  clear hA hB hR
  by_cases hn : L.length = M.length
  · have HN := hidd hn
    have hn2 : (L.length : Int) = (M.length : Int) := by omega
    obtain ⟨n, hln⟩ : ∃ n, L.length = n := ⟨_, rfl⟩
    have HLN := hidd hln
    rw [← hn, hln]
    rw [hln] at hL
    clear hn hln hn2 hM
    go_enter Tryz.func124, Tryz.ntmps124
    go_wp2_with fail
    go_loopg [13] (n + 1) (fun g s wr => ∃ (i q : Nat), i ≤ n ∧ i + g = n + 1 ∧ s = .int .i64 (i : Int) ∧ (∀ j, j < i → SM.av L j = SM.av M j ∧ SM.sv L j = SM.sv M j) ∧ wr = w.drewN q)
    case atStart => exact ⟨0, 0, by omega, by omega, rfl, fun j hj => absurd hj (by omega), rfl⟩
    case round =>
      obtain ⟨i, q, hi, hg, rfl, hs, rfl⟩ := hrel
      have HG := hidd hg
      have HS := hidd hs
      clear hg hs
      by_cases hin : i < n
      · obtain ⟨ad, rfl, ha, x0, x1⟩ := HA.out.send i (by rw [HLN.out]; exact hin)
        obtain ⟨bd, rfl, hb, y0, y1⟩ := HB.out.send i (by rw [← HN.out, HLN.out]; exact hin)
        rw [(av_at (by rw [HLN.out]; exact hin)).1] at x0
        rw [(av_at (by rw [HLN.out]; exact hin)).2] at x1
        rw [(av_at (by rw [← HN.out, HLN.out]; exact hin)).1] at y0
        rw [(av_at (by rw [← HN.out, HLN.out]; exact hin)).2] at y1
        have hin2 : (i : Int) < (n : Int) := by omega
        have hi0 : (0 : Int) ≤ (i : Int) := by omega
        have hno : (SM.av L i ≠ SM.av M i ∨ SM.sv L i ≠ SM.sv M i) → R = false := fun h => by
          rw [← HR.out]
          refine decide_eq_false (fun e => ?_)
          subst e
          rcases h with h | h <;> exact h rfl
        have HNO := hidd hno
        have hst : (SM.av L i = SM.av M i ∧ SM.sv L i = SM.sv M i) → ∀ j, j < i + 1 → SM.av L j = SM.av M j ∧ SM.sv L j = SM.sv M j := fun h j hj => by
          by_cases e : j = i
          · subst e; exact h
          · exact HS.out j (by omega)
        have HST := hidd hst
        clear hno hst
        generalize SM.av L i = a0 at *
        generalize SM.sv L i = a1 at *
        generalize SM.av M i = b0 at *
        generalize SM.sv M i = b1 at *
        by_cases h0 : a0 = b0
        · by_cases h1 : a1 = b1
          · subst h0 h1
            have hn1 := HST.out ⟨rfl, rfl⟩
            have HN1 := hidd hn1
            clear hn1
            go_wp2_with fail
            go_quiet (fail)
            go_wp2_with fail
            have hg := HG.out
            go_roundg (gk - 1)
            case measure => omega
            case rel => exact ⟨i + 1, _, by omega, by omega, by go_num, HN1.out, by first | rfl | (rw [World.drewN_drewN]; done)⟩
          · have hr := HNO.out (.inr h1)
            subst hr
            subst h0
            have h1' : (a1 == b1) = false := beq_eq_false_iff_ne.2 h1
            clear h1
            go_wp2_with fail
            go_quiet (fail)
            go_wp2_with fail
            go_ret
            exact ⟨by simp, _, by first | rfl | (rw [World.drewN_drewN]; done)⟩
        · have hr := HNO.out (.inl h0)
          subst hr
          have h0' : (a0 == b0) = false := beq_eq_false_iff_ne.2 h0
          clear h0
          go_wp2_with fail
          go_quiet (fail)
          go_wp2_with fail
          go_ret
          exact ⟨by simp, _, by first | rfl | (rw [World.drewN_drewN]; done)⟩
      · have hin2 : ¬ (i : Int) < (n : Int) := by omega
        have hr : R = true := by
          rw [← HR.out]
          refine decide_eq_true (List.ext_getElem HN.out fun j h1 h2 => ?_)
          have := HS.out j (by rw [HLN.out] at h1; omega)
          rw [← (av_at h1).1, ← (av_at h1).2, ← (av_at h2).1, ← (av_at h2).2] at this
          exact Prod.ext this.1 this.2
        subst hr
        go_wp2_with fail
        go_ret
        exact ⟨by simp, _, rfl⟩
  · have hne : ((L.length : Int) != (M.length : Int)) = true := by simp; omega
    have hr : R = false := by
      rw [← HR.out]
      exact decide_eq_false (fun e => hn (by rw [e]))
    subst hr
    clear hn
    go_enter Tryz.func124, Tryz.ntmps124
    go_wp2_with fail
    go_ret
    exact ⟨by simp, 0, rfl⟩
end Go.Proofs.YtokcalmmmfakcaaGreat.Zp

namespace Go.Proofs.YtokcalmmmfakcaaGreat.Zp
set_option linter.unusedVariables false
open Go.RowKit Go.Proofs.YtokcalmmmfakcaaGreat.Zp.RowK

/-- is each line the only least one somewhere, by rising Bursts. -/
def NrmAt (L : List (Int × Int)) (i : Nat) : Prop :=
  (SM.av L (i - 1) < SM.av L i ∧ SM.sv L i < SM.sv L (i - 1)) ∧ (2 ≤ i → (SM.av L (i - 1) - SM.av L (i - 2)) * (SM.sv L (i - 1) - SM.sv L i) < (SM.av L i - SM.av L (i - 1)) * (SM.sv L (i - 2) - SM.sv L (i - 1)))
def Nrm (L : List (Int × Int)) : Prop := 0 < L.length ∧ ∀ i, 1 ≤ i → i < L.length → NrmAt L i
def LineBox (w : World) (b : Nat) (x y : Int) : Prop := b < w.heap.size ∧ w.cell? ⟨b, 0, none⟩ = some (.int .i64 x) ∧ w.cell? ⟨b, 1, none⟩ = some (.int .i64 y)
theorem LineBox.step {w w' : World} {b : Nat} {x y : Int} (h : LineBox w b x y) (hb : Below w.heap.size w w') : LineBox w' b x y :=
  ⟨Nat.lt_of_lt_of_le h.1 hb.size, (hb.cell (p := ⟨b, 0, none⟩) h.1).trans h.2.1, (hb.cell (p := ⟨b, 1, none⟩) h.1).trans h.2.2⟩
def allMay (L : List (Int × Int)) : Prop := ∀ i, i < L.length → (0 ≤ SM.av L i ∧ SM.av L i ≤ 2000000000) ∧ 0 ≤ SM.sv L i ∧ SM.sv L i ≤ 2000000000
def NrmEnd (L : List (Int × Int)) (w : World) (e : Ending) (w' : World) : Prop := ∃ R, e = .returned (.bool R) ∧ (R = true ↔ Nrm L) ∧ Below w.heap.size w w'
set_option maxRecDepth 100000 in
set_option maxHeartbeats 4000000 in
theorem normal_any (A : Option Addr) (L : List (Int × Int)) (c : Nat) (hL : L.length ≤ 1000000) (hm : allMay L) (w : World) (hA : Lie sendV 2 w w.heap.size A L) :
    Calls Tryz.prog 58 #[.slice A L.length c] w (NrmEnd L w) := by
  have HA := hidd hA
  have HM := hidd hm
  clear hA hm
  go_enter Tryz.func58, Tryz.ntmps58
  go_wp2_with fail
  go_loopg [3] (L.length + 2) (fun g s3 wr => ∃ i : Nat, 1 ≤ i ∧ i ≤ L.length + 1 ∧ i + g = L.length + 3 ∧ s3 = .int .i64 (i : Int) ∧ (∀ j, 1 ≤ j → j < i → j < L.length → NrmAt L j) ∧ Below w.heap.size w wr)
  case atStart => exact ⟨1, by omega, by omega, by omega, rfl, fun j h1 h2 => absurd h2 (by omega), Below.refl _ _⟩
  case round =>
    obtain ⟨i, hi1, hi2, hg, rfl, hs, hB⟩ := hrel
    have HG := hidd hg
    have HS := hidd hs
    have HB := hidd hB
    clear hg hs hB
    by_cases hin : i < L.length
    · have hin2 : (i : Int) < (L.length : Int) := by omega
      obtain ⟨j, rfl⟩ : ∃ j, i = j + 1 := ⟨i - 1, by omega⟩
      obtain ⟨ad, rfl, ha, x0, x1⟩ := (HA.out.below HB.out).send (j + 1) hin
      obtain ⟨ad', e', ha', y0, y1⟩ := (HA.out.below HB.out).send j (by omega)
      obtain rfl : ad = ad' := by injection e'
      rw [(av_at hin).1] at x0
      rw [(av_at hin).2] at x1
      rw [(av_at (show j < L.length by omega)).1] at y0
      rw [(av_at (show j < L.length by omega)).2] at y1
      have hj1 : ((j + 1 : Nat) : Int) - 1 = (j : Int) := by omega
      have hj2 : IntKind.i64.wrap (((j + 1 : Nat) : Int) - 1) = (j : Int) := by rw [IntWalk.i64_in _ (by omega)]; omega
      have hj0 : (0 : Int) ≤ (j : Int) := by omega
      have hj3 : (j : Int) < (L.length : Int) := by omega
      have hj4 : (0 : Int) ≤ ((j + 1 : Nat) : Int) := by omega
      obtain ⟨⟨b00, b01⟩, b02, b03⟩ := HM.out (j + 1) hin
      obtain ⟨⟨a00, a01⟩, a02, a03⟩ := HM.out j (by omega)
      clear e'
      go_wp2_with fail
      go_cut [4, 5] (fun s4 s5 wx => ∃ p q, s4 = .pointer (some ⟨p, 0, none⟩) ∧ s5 = .pointer (some ⟨q, 0, none⟩) ∧ LineBox wx p (SM.av L j) (SM.sv L j) ∧ LineBox wx q (SM.av L (j + 1)) (SM.sv L (j + 1)) ∧ Below w.heap.size w wx)
      case first =>
        generalize SM.av L j = aa at *
        generalize SM.sv L j = ar at *
        generalize SM.av L (j + 1) = ba at *
        generalize SM.sv L (j + 1) = br at *
        have hBs := HB.out.size
        have hq0 : (ad.add (j * 2)).block < wr.heap.size := by rw [block_of_add] at *; exact ha'
        have hq1 : (ad.add ((j + 1) * 2)).block < wr.heap.size := by rw [block_of_add] at *; exact ha
        have hBB := HB.out
        go_region
        all_goals go_wp2_with fail
        all_goals go_meet
        all_goals exact ⟨_, _, rfl, rfl, ⟨by first | (simp; done) | (simp; omega), by simp [go_sem], by simp [go_sem]⟩, ⟨by first | (simp; done) | (simp; omega), by simp [go_sem], by simp [go_sem]⟩, by (repeat' (first | (with_reducible exact Below.refl _ _) | (with_reducible assumption) | (with_reducible apply Below.setCell) | (with_reducible apply Below.alloc) | (with_reducible apply Below.drew) | (with_reducible apply below_drewN) | (with_reducible refine Below.trans ?_ (Below.mono (by assumption) ?_)) | omega | (simp; done) | (simp; omega)))⟩
      case rest =>
        obtain ⟨p, q, rfl, rfl, ⟨hp, p0, p1⟩, ⟨hq, q0, q1⟩, hB2⟩ := hcut
        have HB2 := hidd hB2
        have hno : ¬ NrmAt L (j + 1) → ¬ Nrm L := fun h hn => h (hn.2 (j + 1) (by omega) hin)
        have HNO := hidd hno
        have hat : NrmAt L (j + 1) ↔ (SM.av L j < SM.av L (j + 1) ∧ SM.sv L (j + 1) < SM.sv L j) ∧ (1 ≤ j → (SM.av L j - SM.av L (j - 1)) * (SM.sv L j - SM.sv L (j + 1)) < (SM.av L (j + 1) - SM.av L j) * (SM.sv L (j - 1) - SM.sv L j)) := by
          unfold NrmAt
          rw [Nat.add_sub_cancel, show j + 1 - 2 = j - 1 by omega]
          constructor
          · exact fun h => ⟨h.1, fun h1 => h.2 (by omega)⟩
          · exact fun h => ⟨h.1, fun h1 => h.2 (by omega)⟩
        have HAT := hidd hat
        clear hB2 hno hat x0 x1 y0 y1 hj1 hj2
        by_cases h1 : SM.av L (j + 1) ≤ SM.av L j
        · have hnn := HNO.out (fun h => by have := (HAT.out.1 h).1.1; omega)
          have HNN := hidd hnn
          clear hnn
          generalize SM.av L j = aa at *
          generalize SM.av L (j + 1) = ba at *
          go_wp2_with fail
          go_ret
          exact ⟨false, rfl, ⟨fun h => absurd h Bool.false_ne_true, fun h => absurd h HNN.out⟩, HB2.out⟩
        · by_cases h2 : SM.sv L j ≤ SM.sv L (j + 1)
          · have hnn := HNO.out (fun h => by have := (HAT.out.1 h).1.2; omega)
            have HNN := hidd hnn
            clear hnn
            have h2d : decide (SM.sv L j ≤ SM.sv L (j + 1)) = true := decide_eq_true h2
            go_wp2_with fail
            go_ret
            exact ⟨false, rfl, ⟨fun h => absurd h Bool.false_ne_true, fun h => absurd h HNN.out⟩, HB2.out⟩
          · by_cases hj : j = 0
            · subst hj
              have hok : NrmAt L (0 + 1) := HAT.out.2 ⟨⟨by omega, by omega⟩, fun h => absurd h (by omega)⟩
              have HOK := hidd hok
              clear hok
              go_wp2_with fail
              have hg := HG.out
              go_roundg (gk - 1)
              case measure => omega
              case rel => exact ⟨0 + 1 + 1, by omega, by omega, by omega, by go_num, fun k k1 k2 k3 => by
                obtain rfl : k = 0 + 1 := by omega
                exact HOK.out, HB2.out⟩
            · obtain ⟨m, rfl⟩ : ∃ m, j = m + 1 := ⟨j - 1, by omega⟩
              obtain ⟨zd, e', hz, z0, z1⟩ := (HA.out.below HB2.out).send m (by omega)
              obtain rfl : ad = zd := by injection e'
              rw [(av_at (show m < L.length by omega)).1] at z0
              rw [(av_at (show m < L.length by omega)).2] at z1
              obtain ⟨⟨c00, c01⟩, c02, c03⟩ := HM.out m (by omega)
              have hok : NrmAt L (m + 1 + 1) ↔ ¬ ((SM.av L (m + 1 + 1) - SM.av L (m + 1)) * (SM.sv L m - SM.sv L (m + 1)) ≤ (SM.av L (m + 1) - SM.av L m) * (SM.sv L (m + 1) - SM.sv L (m + 1 + 1))) := by
                rw [HAT.out, Nat.add_sub_cancel]
                constructor
                · intro h; have := h.2 (by omega); omega
                · intro h; exact ⟨⟨by omega, by omega⟩, fun _ => by omega⟩
              have HOK := hidd hok
              have hi1 : (1 : Int) < ((m + 1 + 1 : Nat) : Int) := by omega
              have hj2 : IntKind.i64.wrap (((m + 1 + 1 : Nat) : Int) - 2) = (m : Int) := by rw [IntWalk.i64_in _ (by omega)]; omega
              have hj5 : (0 : Int) ≤ (m : Int) := by omega
              have hj6 : (m : Int) < (L.length : Int) := by omega
              clear e' hok
              generalize SM.av L (m + 1 + 1) = ba at *
              generalize SM.sv L (m + 1 + 1) = br at *
              generalize SM.av L (m + 1) = aa at *
              generalize SM.sv L (m + 1) = ar at *
              generalize SM.av L m = za at *
              generalize SM.sv L m = zr at *
              have f1 : wrap64 ((aa - za) * (ar - br)) = (aa - za) * (ar - br) := by
                have := prod_bd (x := aa - za) (y := ar - br) (by omega) (by omega) (by omega) (by omega)
                have e1 : IntKind.i64.wrap ((aa - za) * (ar - br)) = (aa - za) * (ar - br) := IntWalk.i64_in _ (by omega)
                conv => rhs; rw [← e1]
                simp [IntKind.wrap_i64, wrap64]
              have f2 : wrap64 ((ba - aa) * (zr - ar)) = (ba - aa) * (zr - ar) := by
                by_cases hz : zr - ar ≤ 2000000000
                · have := prod_bd (x := ba - aa) (y := zr - ar) (by omega) (by omega) (by omega) (by omega)
                  have e1 : IntKind.i64.wrap ((ba - aa) * (zr - ar)) = (ba - aa) * (zr - ar) := IntWalk.i64_in _ (by omega)
                  conv => rhs; rw [← e1]
                  simp [IntKind.wrap_i64, wrap64]
                · omega
              have F1 := hidd f1
              have F2 := hidd f2
              have hBs := HB2.out.size
              have hBB := HB2.out
              clear f1 f2
              go_wp2_with fail
              · rename_i hle
                rw [F1.out, F2.out] at hle
                have hnn := HNO.out (fun h => absurd (HOK.out.1 h) (by omega))
                have HNN := hidd hnn
                clear hnn
                go_ret
                exact ⟨false, rfl, ⟨fun h => absurd h Bool.false_ne_true, fun h => absurd h HNN.out⟩, by (repeat' (first | (with_reducible exact Below.refl _ _) | (with_reducible assumption) | (with_reducible apply Below.setCell) | (with_reducible apply Below.alloc) | (with_reducible apply Below.drew) | (with_reducible apply below_drewN) | (with_reducible refine Below.trans ?_ (Below.mono (by assumption) ?_)) | omega | (simp; done) | (simp; omega)))⟩
              · rename_i hlt
                rw [F1.out, F2.out] at hlt
                have hnn := HOK.out.2 hlt
                have HNN := hidd hnn
                clear hnn
                have hg := HG.out
                go_roundg (gk - 1)
                case measure => omega
                case rel => exact ⟨m + 1 + 1 + 1, by omega, by omega, by omega, by go_num, fun k k1 k2 k3 => by
                  by_cases hk : k = m + 1 + 1
                  · subst hk; exact HNN.out
                  · exact HS.out k k1 (by omega) k3, by (repeat' (first | (with_reducible exact Below.refl _ _) | (with_reducible assumption) | (with_reducible apply Below.setCell) | (with_reducible apply Below.alloc) | (with_reducible apply Below.drew) | (with_reducible apply below_drewN) | (with_reducible refine Below.trans ?_ (Below.mono (by assumption) ?_)) | omega | (simp; done) | (simp; omega)))⟩
    · have hin2 : ¬ (i : Int) < (L.length : Int) := by omega
      have hall : ∀ j, 1 ≤ j → j < L.length → NrmAt L j := fun j h1 h2 => HS.out j h1 (by omega) h2
      have HALL := hidd hall
      clear hall
      by_cases h0 : L.length = 0
      · have h01 : ¬ (0 : Int) < (L.length : Int) := by omega
        have h02 : ¬ 0 < L.length := by omega
        have HN : Hid (¬ Nrm L) := hidd (fun h => h02 h.1)
        go_wp2_with fail
        go_ret
        exact ⟨false, by first | rfl | simp [h0], ⟨fun h => absurd h Bool.false_ne_true, fun h => absurd h HN.out⟩, HB.out⟩
      · have h01 : (0 : Int) < (L.length : Int) := by omega
        have h02 : 0 < L.length := by omega
        have HN : Hid (Nrm L) := hidd ⟨h02, HALL.out⟩
        go_wp2_with fail
        go_ret
        exact ⟨true, by first | rfl | simp [h02], ⟨fun _ => HN.out, fun _ => rfl⟩, HB.out⟩
end Go.Proofs.YtokcalmmmfakcaaGreat.Zp

namespace Go.Proofs.YtokcalmmmfakcaaGreat.Zp
set_option linter.unusedVariables false
namespace CM
open SM
/-- of the list's first n lines and one more: those that stay. -/
def keep (L : List (Int × Int)) (x : Int × Int) : Nat → List (Int × Int)
  | 0 => [x]
  | n + 1 => if sv L n ≤ x.2 then L.take (n + 1)
    else if n = 0 ∨ (av L n - av L (n - 1)) * (sv L n - x.2) < (x.1 - av L n) * (sv L (n - 1) - sv L n) then L.take (n + 1) ++ [x]
    else keep L x n
def hull (l : List (Int × Int)) : List (Int × Int) := l.foldl (fun c x => keep c x c.length) []
theorem hull_snoc (l : List (Int × Int)) (x : Int × Int) : hull (l ++ [x]) = keep (hull l) x (hull l).length := by simp [hull]

theorem av_take {L : List (Int × Int)} {n i : Nat} (h : i < n) : av (L.take n) i = av L i ∧ sv (L.take n) i = sv L i := by
  unfold av sv
  rw [List.getD_eq_getElem?_getD, List.getD_eq_getElem?_getD, List.getElem?_take_of_lt h]
  exact ⟨rfl, rfl⟩
theorem nrm_take {L : List (Int × Int)} {n i : Nat} (h : i < n) : NrmAt (L.take n) i ↔ NrmAt L i := by
  unfold NrmAt
  rw [(av_take (L := L) h).1, (av_take (L := L) h).2, (av_take (L := L) (show i - 1 < n by omega)).1, (av_take (L := L) (show i - 1 < n by omega)).2, (av_take (L := L) (show i - 2 < n by omega)).1, (av_take (L := L) (show i - 2 < n by omega)).2]
theorem nrm_app {L : List (Int × Int)} {x : Int × Int} {i : Nat} (h : i < L.length) : NrmAt (L ++ [x]) i ↔ NrmAt L i := by
  unfold NrmAt
  rw [(av_app (L := L) h).1, (av_app (L := L) h).2, (av_app (L := L) (show i - 1 < L.length by omega)).1, (av_app (L := L) (show i - 1 < L.length by omega)).2, (av_app (L := L) (show i - 2 < L.length by omega)).1, (av_app (L := L) (show i - 2 < L.length by omega)).2]
theorem take_len {L : List (Int × Int)} {n : Nat} (h : n ≤ L.length) : (L.take n).length = n := by simp; omega
/-- the next one behind the first n + 1. -/
theorem nrm_next {L : List (Int × Int)} {x : Int × Int} {n : Nat} (hn : n < L.length) : NrmAt (L.take (n + 1) ++ [x]) (n + 1) ↔
    (av L n < x.1 ∧ x.2 < sv L n) ∧ (1 ≤ n → (av L n - av L (n - 1)) * (sv L n - x.2) < (x.1 - av L n) * (sv L (n - 1) - sv L n)) := by
  have hl : (L.take (n + 1)).length = n + 1 := take_len (by omega)
  have e0 := av_last (L := L.take (n + 1)) (x := x)
  rw [hl] at e0
  have e1 := av_app (L := L.take (n + 1)) (x := x) (i := n) (by omega)
  have e2 := av_app (L := L.take (n + 1)) (x := x) (i := n - 1) (by omega)
  rw [(av_take (L := L) (show n < n + 1 by omega)).1, (av_take (L := L) (show n < n + 1 by omega)).2] at e1
  rw [(av_take (L := L) (show n - 1 < n + 1 by omega)).1, (av_take (L := L) (show n - 1 < n + 1 by omega)).2] at e2
  unfold NrmAt
  rw [show n + 1 - 1 = n by omega, show n + 1 - 2 = n - 1 by omega, e0.1, e0.2, e1.1, e1.2, e2.1, e2.2]
  constructor
  · exact fun h => ⟨h.1, fun h1 => h.2 (by omega)⟩
  · exact fun h => ⟨h.1, fun h1 => h.2 (by omega)⟩
def AllN (L : List (Int × Int)) : Prop := ∀ i, 1 ≤ i → i < L.length → NrmAt L i
theorem AllN.take {L : List (Int × Int)} (h : AllN L) (n : Nat) : AllN (L.take n) := fun i h1 h2 => by
  have h3 : i < n ∧ i < L.length := by simp at h2; omega
  exact (nrm_take h3.1).2 (h i h1 h3.2)
/-- by Burst, then by Rate. -/
def le (a b : Int × Int) : Bool := decide (a.1 < b.1 ∨ a.1 = b.1 ∧ a.2 ≤ b.2)
theorem keep_nrm {L : List (Int × Int)} (x : Int × Int) (h : AllN L) (hle : ∀ y ∈ L, le y x = true) : ∀ n, n ≤ L.length → (n = 0 → L = []) → AllN (keep L x n) ∧ keep L x n ≠ []
  | 0, _, h0 => by
    refine ⟨fun i h1 h2 => ?_, by simp [keep]⟩
    simp [keep] at h2; omega
  | n + 1, hn, _ => by
    have hm := hle L[n] (List.getElem_mem (by omega))
    have ha : av L n = L[n].1 ∧ sv L n = L[n].2 := by
      unfold av sv; rw [List.getD_eq_getElem?_getD, List.getElem?_eq_getElem (show n < L.length by omega)]; exact ⟨rfl, rfl⟩
    unfold keep
    by_cases h1 : sv L n ≤ x.2
    · rw [if_pos h1]
      refine ⟨h.take _, fun e => ?_⟩
      have := take_len (L := L) hn
      rw [e] at this; simp at this
    · rw [if_neg h1]
      have hlt : av L n < x.1 := by
        have := of_decide_eq_true hm
        have e1 := ha.1
        have e2 := ha.2
        omega
      by_cases h2 : n = 0 ∨ (av L n - av L (n - 1)) * (sv L n - x.2) < (x.1 - av L n) * (sv L (n - 1) - sv L n)
      · rw [if_pos h2]
        refine ⟨fun i i1 i2 => ?_, by simp⟩
        rw [List.length_append, take_len hn] at i2
        simp at i2
        by_cases hi : i < n + 1
        · rw [nrm_app (by rw [take_len hn]; exact hi)]
          exact (nrm_take hi).2 (h i i1 (by omega))
        · obtain rfl : i = n + 1 := by omega
          rw [nrm_next (by omega)]
          exact ⟨⟨hlt, by omega⟩, fun h3 => h2.resolve_left (by omega)⟩
      · rw [if_neg h2]
        exact keep_nrm x h hle n (by omega) (fun h3 => absurd (Or.inl h3) h2)
theorem keep_mem {L : List (Int × Int)} (x : Int × Int) : ∀ n, ∀ y ∈ keep L x n, y ∈ L ∨ y = x
  | 0, y, hy => by simp [keep] at hy; exact .inr hy
  | n + 1, y, hy => by
    unfold keep at hy
    split at hy
    · exact .inl (List.mem_of_mem_take hy)
    · split at hy
      · rcases List.mem_append.1 hy with h | h
        · exact .inl (List.mem_of_mem_take h)
        · exact .inr (by simpa using h)
      · exact keep_mem x n y hy
theorem keep_len {L : List (Int × Int)} (x : Int × Int) : ∀ n, (keep L x n).length ≤ n + 1
  | 0 => by simp [keep]
  | n + 1 => by
    unfold keep
    split
    · simp; omega
    · split
      · simp; omega
      · have := keep_len (L := L) x n; omega
theorem hull_mem : ∀ (l : List (Int × Int)), ∀ y ∈ hull l, y ∈ l := by
  intro l
  have : ∀ (l c : List (Int × Int)), ∀ y ∈ l.foldl (fun c x => keep c x c.length) c, y ∈ l ∨ y ∈ c := by
    intro l
    induction l with
    | nil => intro c y hy; exact .inr hy
    | cons x l ih =>
      intro c y hy
      rcases ih _ y hy with h | h
      · exact .inl (by simp [h])
      · rcases keep_mem x _ y h with h | h
        · exact .inr h
        · exact .inl (by simp [h])
  intro y hy
  rcases this l [] y hy with h | h
  · exact h
  · simp at h
theorem hull_len (l : List (Int × Int)) : (hull l).length ≤ l.length := by
  have : ∀ (l c : List (Int × Int)), (l.foldl (fun c x => keep c x c.length) c).length ≤ l.length + c.length := by
    intro l
    induction l with
    | nil => intro c; simp
    | cons x l ih =>
      intro c
      have h1 := ih (keep c x c.length)
      have h2 := keep_len (L := c) x c.length
      simp only [List.foldl_cons, List.length_cons]
      omega
  have h := this l []
  simpa [hull] using h
/-- rising lines: what stays is a curve's. -/
theorem hull_nrm (l : List (Int × Int)) (hs : l.Pairwise (fun a b => le a b = true)) (h0 : l ≠ []) : Nrm (hull l) := by
  have : ∀ (l c : List (Int × Int)), l.Pairwise (fun a b => le a b = true) → (∀ y ∈ c, ∀ x ∈ l, le y x = true) → AllN c → (l ≠ [] ∨ c ≠ []) → AllN (l.foldl (fun c x => keep c x c.length) c) ∧ l.foldl (fun c x => keep c x c.length) c ≠ [] := by
    intro l
    induction l with
    | nil => intro c _ _ h1 h2; exact ⟨h1, by simpa using h2⟩
    | cons x l ih =>
      intro c hp hc h1 _
      obtain ⟨k1, k2⟩ := keep_nrm x h1 (fun y hy => hc y hy x (by simp)) c.length (Nat.le_refl _) (fun h => List.eq_nil_of_length_eq_zero h)
      rw [List.pairwise_cons] at hp
      exact ih _ hp.2 (fun y hy z hz => by
        rcases keep_mem x _ y hy with h | rfl
        · exact hc y h z (by simp [hz])
        · exact hp.1 z hz) k1 (.inr k2)
  obtain ⟨h1, h2⟩ := this l [] hs (by simp) (fun i _ h => by simp at h) (.inl h0)
  exact ⟨List.length_pos_iff.2 h2, h1⟩
theorem keep_all {L : List (Int × Int)} {x : Int × Int} (h : NrmAt (L ++ [x]) L.length) (h0 : 0 < L.length) : keep L x L.length = L ++ [x] := by
  obtain ⟨n, hn⟩ : ∃ n, L.length = n + 1 := ⟨L.length - 1, by omega⟩
  have ht : L.take (n + 1) = L := List.take_of_length_le (by omega)
  have hx := nrm_next (L := L) (x := x) (n := n) (by omega)
  rw [ht] at hx
  rw [hn] at h ⊢
  have hy := hx.1 h
  unfold keep
  rw [if_neg (by omega), if_pos, ht]
  by_cases h1 : n = 0
  · exact .inl h1
  · exact .inr (hy.2 (by omega))
theorem hull_take {L : List (Int × Int)} (h : AllN L) : ∀ n, n ≤ L.length → hull (L.take n) = L.take n
  | 0, _ => by simp [hull]
  | n + 1, hn => by
    have e : L.take (n + 1) = L.take n ++ [L[n]] := by rw [List.take_add_one, List.getElem?_eq_getElem (show n < L.length by omega)]; rfl
    rw [e, hull_snoc, hull_take h n (by omega)]
    have hl : (L.take n).length = n := take_len (by omega)
    by_cases h0 : n = 0
    · subst h0; simp [keep]
    · refine keep_all ?_ (by omega)
      rw [← e, hl]
      exact (nrm_take (by omega)).2 (h n (by omega) (by omega))
theorem hull_self {L : List (Int × Int)} (h : Nrm L) : hull L = L := by
  have := hull_take (L := L) h.2 L.length (Nat.le_refl _)
  rwa [List.take_length] at this
def sortL (l : List (Int × Int)) : List (Int × Int) := l.mergeSort le
theorem le_trans (a b c : Int × Int) (h1 : le a b = true) (h2 : le b c = true) : le a c = true := by
  have := of_decide_eq_true h1
  have := of_decide_eq_true h2
  exact decide_eq_true (by omega)
theorem le_total (a b : Int × Int) : (le a b || le b a) = true := by
  rw [Bool.or_eq_true]
  by_cases h : a.1 < b.1 ∨ a.1 = b.1 ∧ a.2 ≤ b.2
  · exact .inl (decide_eq_true h)
  · exact .inr (decide_eq_true (by omega))
theorem sortL_perm (l : List (Int × Int)) : (sortL l).Perm l := List.mergeSort_perm l le
theorem sortL_up (l : List (Int × Int)) : (sortL l).Pairwise (fun a b => le a b = true) := List.pairwise_mergeSort le_trans le_total l
def low (l : List (Int × Int)) : List (Int × Int) := hull (sortL l)
theorem low_len (l : List (Int × Int)) : (low l).length ≤ l.length := Nat.le_trans (hull_len _) (Nat.le_of_eq (sortL_perm l).length_eq)
theorem low_nrm {l : List (Int × Int)} (h : l ≠ []) : Nrm (low l) := hull_nrm _ (sortL_up l) (fun e => h (by have := (sortL_perm l).length_eq; rw [e] at this; exact List.eq_nil_of_length_eq_zero this.symm))
theorem nrm_up {L : List (Int × Int)} (h : Nrm L) : L.Pairwise (fun a b => le a b = true) := by
  rw [List.pairwise_iff_getElem]
  intro i j hi hj hij
  have key : ∀ k, i + 1 + k < L.length → SM.av L i < SM.av L (i + 1 + k) := by
    intro k
    induction k with
    | zero => intro hk; have := (h.2 (i + 1) (by omega) hk).1.1; rwa [Nat.add_sub_cancel] at this
    | succ k ih =>
      intro hk
      have h1 := ih (by omega)
      have h2 := (h.2 (i + 1 + k + 1) (by omega) hk).1.1
      rw [Nat.add_sub_cancel] at h2
      exact Int.lt_trans h1 h2
  have h3 := key (j - i - 1) (by omega)
  rw [show i + 1 + (j - i - 1) = j by omega] at h3
  unfold SM.av at h3
  rw [List.getD_eq_getElem?_getD, List.getD_eq_getElem?_getD, List.getElem?_eq_getElem hi, List.getElem?_eq_getElem hj] at h3
  exact decide_eq_true (.inl h3)
theorem low_self {L : List (Int × Int)} (h : Nrm L) : low L = L := by
  unfold low sortL
  rw [List.mergeSort_of_pairwise (nrm_up h), hull_self h]
theorem low_iff {L : List (Int × Int)} : (low L = L ∧ L ≠ []) ↔ Nrm L := by
  constructor
  · rintro ⟨h, h0⟩; rw [← h]; exact low_nrm h0
  · intro h; exact ⟨low_self h, fun e => by have := h.1; rw [e] at this; simp at this⟩
end CM
end Go.Proofs.YtokcalmmmfakcaaGreat.Zp

namespace Go.Proofs.YtokcalmmmfakcaaGreat.Zp
set_option linter.unusedVariables false
namespace CM
open SM
end CM
end Go.Proofs.YtokcalmmmfakcaaGreat.Zp

namespace Go.Proofs.YtokcalmmmfakcaaGreat.Zp
set_option linter.unusedVariables false
open Go.RowKit Go.Proofs.YtokcalmmmfakcaaGreat.Zp.RowK Go.Shelf
attribute [local go_sem] Oper.semAt_some

abbrev Crv := Value × List (Int × Int)
def curV (c : Crv) : List Value := [c.1]
/-- the slice holds the lines. -/
def HeldC (W : World) (B : Nat) (c : Crv) : Prop := ∃ A k, c.1 = .slice A c.2.length k ∧ Lie sendV 2 W B A c.2
def Curves (W : World) (B : Nat) (A : Option Addr) (cs : List Crv) : Prop := Lie curV 1 W B A cs ∧ ∀ c ∈ cs, HeldC W B c
theorem HeldC.keep {W W' : World} {B : Nat} {c : Crv} (h : HeldC W B c) (hb : Below B W W') : HeldC W' B c := by
  obtain ⟨A, k, e, hl⟩ := h
  exact ⟨A, k, e, hl.keep hb⟩
theorem Curves.keep {W W' : World} {B : Nat} {A : Option Addr} {cs : List Crv} (h : Curves W B A cs) (hb : Below B W W') : Curves W' B A cs :=
  ⟨h.1.keep hb, fun c hc => (h.2 c hc).keep hb⟩
theorem Curves.more {W : World} {B B' : Nat} {A : Option Addr} {cs : List Crv} (h : Curves W B A cs) (hb : B ≤ B') : Curves W B' A cs :=
  ⟨h.1.more hb, fun c hc => by obtain ⟨A, k, e, hl⟩ := h.2 c hc; exact ⟨A, k, e, hl.more hb⟩⟩
theorem Curves.at_ {W : World} {B : Nat} {A : Option Addr} {cs : List Crv} (h : Curves W B A cs) (i : Nat) (hi : i < cs.length) : ∃ ad, A = some ad ∧ ad.block < B ∧ W.cell? (ad.add i) = some cs[i].1 := by
  obtain ⟨ad, e, hb, hc⟩ := h.1 (by omega)
  refine ⟨ad, e, hb, ?_⟩
  have := hc i cs[i] (by simp [hi]) 0 cs[i].1 rfl
  simpa using this
def allLines (cs : List Crv) : List (Int × Int) := cs.flatMap (·.2)
theorem allLines_take {cs : List Crv} {k : Nat} (h : k < cs.length) : allLines (cs.take (k + 1)) = allLines (cs.take k) ++ cs[k].2 := by
  unfold allLines
  rw [List.take_add_one, List.getElem?_eq_getElem h, List.flatMap_append]; simp
theorem allLines_prefix (cs : List Crv) (k : Nat) : allLines (cs.take k) <+: allLines cs := by
  unfold allLines
  conv => rhs; rw [← List.take_append_drop k cs, List.flatMap_append]
  exact List.prefix_append _ _
theorem take_one {L : List (Int × Int)} {m : Nat} (h : m < L.length) : L.take (m + 1) = L.take m ++ [(SM.av L m, SM.sv L m)] := by
  rw [List.take_add_one, List.getElem?_eq_getElem h, ← (av_at h).1, ← (av_at h).2]; rfl
theorem part_prefix {cs : List Crv} {k : Nat} (h : k < cs.length) (m : Nat) : allLines (cs.take k) ++ cs[k].2.take m <+: allLines cs := by
  refine List.IsPrefix.trans ?_ (allLines_prefix cs (k + 1))
  rw [allLines_take h]
  exact (List.prefix_append_right_inj _).2 (List.take_prefix _ _)
theorem part_lt {cs : List Crv} {k : Nat} (h : k < cs.length) {m : Nat} (hm : m < cs[k].2.length) : (allLines (cs.take k) ++ cs[k].2.take m).length < (allLines cs).length := by
  have h1 := (part_prefix h (m + 1)).length_le
  simp only [List.length_append, List.length_take] at *
  omega

set_option maxRecDepth 100000 in
set_option maxHeartbeats 4000000 in
theorem joined1_in (F : Fence) (n : Nat) (h61 : F.fn 150) (hro : F.round = none) (hn : 1 ≤ n) (l Bs n₀ : Nat) (A : Option Addr) (k : Nat) (cs : List Crv) (hlen : cs.length ≤ 1000000) (hlen2 : ∀ c ∈ cs, c.2.length ≤ 1000000) (J Jx : List (Int × Int) → World → Prop)
    (W : World) (hn0 : n₀ ≤ W.heap.size) (hJ : AbidesFrom W.heap.size J)
    (hY : ∀ pre x W, J pre W → pre.length < (allLines cs).length → YieldAt F (n - 1) Tryz.prog l #[.agg #[.int .i64 x.1, .int .i64 x.2]] W fun e W' =>
      (e = .returned (.bool true) ∧ J (pre ++ [x]) W' ∧ Below n₀ W W') ∨ (e = .returned (.bool false) ∧ Jx (pre ++ [x]) W'))
    (hBs : W.cell? ⟨Bs, 0, none⟩ = some (.slice A cs.length k)) (hC : Curves W n₀ A cs) (h0 : J [] W) :
    CallsIn F n Tryz.prog 150 #[.func (.yield l) #[] #[], .pointer (some ⟨Bs, 0, none⟩)] W fun e W' => (∃ v, e = .returned v) ∧
      ((∃ ys, ys = allLines cs ∧ J ys W') ∨ (∃ pre, pre <+: allLines cs ∧ Jx pre W')) := by
  have HC := hidd hC
  clear hC
  refine callsIn_of_wp Tryz.func150 rfl h61 ?_ hro
  simp only [Tryz.ntmps150, List.size_toArray, List.length_cons, List.length_nil, Nat.reduceAdd, Nat.reduceSub, Array.replicate_succ, Array.replicate_zero, List.push_toArray, List.append_toArray, List.nil_append, List.cons_append]
  gi_wp2
  gi_loopw [9] (fun i wr => ∃ q : Nat, q ≤ cs.length ∧ i = .int .i64 q ∧ J (allLines (cs.take q)) wr ∧ Below n₀ W wr)
    (fun i _ => cs.length - (intOf i).toNat)
  case atStart => exact ⟨0, Nat.zero_le _, rfl, h0, Below.refl _ _⟩
  case round =>
    obtain ⟨q, hq, rfl, hJs, hnx⟩ := hrel
    by_cases hlt : q < cs.length
    · obtain ⟨ad, rfl, hab, hcell⟩ := (HC.out.keep hnx).at_ q hlt
      obtain ⟨A2, k2, he2, hl2⟩ := HC.out.2 cs[q] (List.getElem_mem hlt)
      rw [he2] at hcell
      have HL2 := hidd hl2
      have hL := hlen2 cs[q] (List.getElem_mem hlt)
      have HT := hidd (allLines_take hlt)
      have HP := hidd (fun m => part_prefix hlt m)
      have HPL := hidd (fun m h => part_lt hlt (m := m) h)
      clear hl2 he2
      generalize cs[q].2 = L at *
      have hq2 : (q : Int) < (cs.length : Int) := by omega
      gi_wp2
      obtain ⟨wo, hwo⟩ : ∃ wo : World, wo = wr := ⟨_, rfl⟩
      gi_loopw [15] (fun j wx => ∃ m : Nat, m ≤ L.length ∧ j = .int .i64 m ∧ J (allLines (cs.take q) ++ L.take m) wx ∧ Below n₀ W wx)
        (fun j _ => L.length - (intOf j).toNat)
      case atStart => exact ⟨0, Nat.zero_le _, rfl, by simpa using hJs, hnx⟩
      case round =>
        obtain ⟨m, hm, rfl, hJm, hmx⟩ := hrel
        by_cases hlm : m < L.length
        · have hm2 : (m : Int) < (L.length : Int) := by omega
          obtain ⟨bd, rfl, hbb, x0, x1⟩ := (HL2.out.keep hmx).send m hlm
          rw [(av_at hlm).1] at x0
          rw [(av_at hlm).2] at x1
          have HT1 := hidd (take_one hlm)
          have hJa : J (allLines (cs.take q) ++ L.take m) (wr.alloc (.cells #[.int .i64 (SM.av L m), .int .i64 (SM.sv L m)] 68)) := hJ _ _ _ none hJm (World.grownBy_alloc _ _ _) (by simp)
          obtain ⟨fn, tmps, assign, body, hy, hR⟩ := hY _ (SM.av L m, SM.sv L m) _ hJa (HPL.out m hlm)
          dsimp only at hy
          generalize SM.av L m = a0 at *
          generalize SM.sv L m = a1 at *
          gi_wp2
          refine hR.mono ?_
          rintro e W3 (⟨rfl, hJ3, hk3⟩ | ⟨rfl, hJx3⟩)
          · gi_wp2
            go_roundw
            case rel => exact ⟨m + 1, by omega, by simp, by rw [HT1.out, ← List.append_assoc]; exact hJ3, (hmx.alloc (by have := hmx.size; omega) _).trans hk3⟩
            case measure => simp [intOf]; omega
          · gi_wp2
            refine bodyPost_ret (results_none rfl _ _ _) rfl ?_
            exact ⟨⟨_, rfl⟩, .inr ⟨_, by rw [List.append_assoc, ← HT1.out]; exact HP.out (m + 1), hJx3⟩⟩
        · obtain rfl : m = L.length := by omega
          gi_wp2
          go_roundw
          case rel => exact ⟨q + 1, by omega, by simp, by rw [HT.out]; simpa using hJm, hmx⟩
          case measure => simp [intOf]; omega
    · obtain rfl : q = cs.length := by omega
      gi_wp2
      go_end0
      exact ⟨⟨_, rfl⟩, .inl ⟨_, by rw [List.take_length], hJs⟩⟩
end Go.Proofs.YtokcalmmmfakcaaGreat.Zp

namespace Go.Proofs.YtokcalmmmfakcaaGreat.Zp
set_option linter.unusedVariables false
open Go.RowKit Go.Proofs.YtokcalmmmfakcaaGreat.Zp.RowK Go.Shelf Go.Sort Go.Lib

/-- draws and new blocks alone. -/
def Grew (w w' : World) : Prop := ∃ q os, w' = grow (w.drewN q) os
theorem Grew.refl (w : World) : Grew w w := ⟨0, #[], by simp [World.drewN]⟩
theorem Grew.alloc {w W : World} (h : Grew w W) (o : Obj) : Grew w (W.alloc o) := by
  obtain ⟨q, os, rfl⟩ := h
  exact ⟨q, os ++ #[o], by rw [alloc_eq_grow, grow_grow]⟩
theorem Grew.drewN {w W : World} (h : Grew w W) (n : Nat) : Grew w (W.drewN n) := by
  obtain ⟨q, os, rfl⟩ := h
  exact ⟨q + n, os, by show grow ((w.drewN q).drewN n) os = _; rw [World.drewN_drewN]⟩
theorem Grew.drew {w W : World} (h : Grew w W) : Grew w W.drew := h.drewN 1
theorem lineC_le (a b : Int × Int) : (!ltOf lineC b a) = CM.le a b := by
  unfold ltOf lineC orV cmpV CM.le
  rcases Int.lt_trichotomy a.1 b.1 with h | h | h
  · have h1 : ¬ b.1 < a.1 := by omega
    simp [h, h1]
  · rcases Int.lt_trichotomy a.2 b.2 with g | g | g
    · have g1 : ¬ b.2 < a.2 := by omega
      have g2 : a.2 ≤ b.2 := by omega
      simp [h, g, g1, g2]
    · simp [h, g]
    · have g2 : ¬ a.2 ≤ b.2 := by omega
      simp [h, g, g2]
  · have h1 : ¬ a.1 < b.1 := by omega
    have h2 : ¬ a.1 = b.1 := by omega
    simp [h, h1, h2]
theorem lineC_lt (a b : Int × Int) : ltOf lineC a b = decide (a.1 < b.1 ∨ a.1 = b.1 ∧ a.2 < b.2) := by
  have h := lineC_le b a
  have e : ltOf lineC a b = !CM.le b a := by rw [← h]; simp
  rw [e]
  unfold CM.le
  rw [Bool.eq_iff_iff]
  simp
  omega
theorem lineO : SWO (ltOf lineC) where
  irrefl x := by rw [lineC_lt]; simp
  trans x y z h1 h2 := by rw [lineC_lt] at *; simp at *; omega
  ntrans x y z h1 h2 := by rw [lineC_lt] at *; simp at *; omega
theorem line_sorted (d d' : Array (Int × Int)) (hp : PermIn 0 d.size d d') (hs : SortedIn (ltOf lineC) 0 d.size d') : d'.toList = CM.sortL d.toList := by
  have h := sorted_unique_holds (lt := ltOf lineC) lineO (fun x y h1 h2 => by rw [lineC_lt] at *; simp at *; exact Prod.ext (by omega) (by omega)) d d' hp hs
  have e : (fun x y : Int × Int => !ltOf lineC y x) = CM.le := by funext x y; exact lineC_le x y
  rw [e] at h
  exact h
theorem flat_row (d : Array (Int × Int)) : (flatK sendV 2 d).toList = rowOf sendV d.toList := by
  apply List.ext_getElem?
  intro t
  have hl : (rowOf sendV d.toList).length = d.size * 2 := by rw [row_len sendV_len]; simp
  by_cases ht : t < d.size * 2
  · have h1 : t / 2 < d.size := by omega
    have e1 := row_at sendV_len d.toList (t / 2) d[t / 2] (by simp [h1])
    have e2 : t / 2 * 2 + t % 2 = t := by omega
    have h2 : t % 2 < (sendV d[t / 2]).length := by rw [sendV_len]; omega
    have e3 := e1 (t % 2) (sendV d[t / 2])[t % 2] (by simp [h2])
    rw [e2] at e3
    rw [e3, Array.getElem?_toList, Array.getElem?_eq_getElem (by simpa using ht)]
    have := get_flatK sendV 2 d t ht
    rw [getElem!_pos _ t (by simpa using ht), getElem!_pos d (t / 2) h1, getElem!_pos (sendV d[t / 2]) (t % 2) h2] at this
    rw [this]
  · rw [List.getElem?_eq_none (by simp; omega), List.getElem?_eq_none (by omega)]
theorem holds_own {w : World} {g : Nat} {cur : Array Value} {e : TypeId} {L : List (Int × Int)} (hb : w.heap[g]? = some (.cells cur e (0, 0))) (ht : cur.toList.take (L.length * 2) = rowOf sendV L) : HoldsK sendV 2 w g 0 L.toArray := by
  intro j hj
  have hj' : j < L.length * 2 := by simpa using hj
  refine ⟨?_, by simp [World.frozen?, hb]⟩
  have h1 : (cur.toList.take (L.length * 2))[j]? = (rowOf sendV L)[j]? := by rw [ht]
  rw [List.getElem?_take_of_lt hj'] at h1
  have h2 : (flatK sendV 2 L.toArray).toList[j]? = (rowOf sendV L)[j]? := by rw [flat_row]
  rw [Array.getElem?_toList, Array.getElem?_eq_getElem (by simpa using hj')] at h2
  simp only [World.cell?, hb, Nat.zero_add, Option.isSome_none, Bool.false_eq_true, if_false]
  rw [← Array.getElem?_toList, h1, ← h2, getElem!_pos _ j hj]
  rfl
theorem heap_sortedK {w : World} {g n : Nat} {os : Array Obj} {cur : Array Value} {e : TypeId} {fr : Nat × Nat} (d : Array (Int × Int)) (hb : w.heap[g]? = some (.cells cur e fr)) :
    (sortWorldK sendV 2 w g 0 n d os).heap[g]? = some (.cells (putCells id 0 (flatK sendV 2 d) cur) e fr) := by
  have hg : g < w.heap.size := (Array.getElem?_eq_some_iff.1 hb).1
  unfold sortWorldK
  rw [heap_grow_old _ _ (by rw [size_putRowK]; simpa using hg)]
  simp [putRowK, putRow, mapBlock, Sort.ahead, Array.getElem?_modify, hb, onCells]
theorem grownBy_sortedK {w : World} {g n : Nat} {os : Array Obj} (d : Array (Int × Int)) : w.grownBy (sortWorldK sendV 2 w g 0 n d os) (some g) := by
  refine ⟨rfl, rfl, rfl, by unfold sortWorldK; simp [size_putRowK, Sort.ahead], fun k hk hne => ?_⟩
  unfold sortWorldK
  rw [heap_grow_old _ _ (by rw [size_putRowK]; simpa using hk)]
  have : g ≠ k := fun e => hne (by rw [e])
  simp [putRowK, putRow, mapBlock, Sort.ahead, Array.getElem?_modify, this]
theorem take_putK (cur F : Array Value) (h : F.size ≤ cur.size) : (putCells id 0 F cur).toList.take F.size = F.toList := by
  apply List.ext_getElem?
  intro j
  by_cases hj : j < F.size
  · rw [List.getElem?_take_of_lt hj, Array.getElem?_toList]
    simp [putCells, hj, show j < cur.size by omega]
  · rw [List.getElem?_take_eq_none (by omega), List.getElem?_eq_none (by simp; omega)]
theorem OwnL.sorted {w : World} {base g cap n : Nat} {e : TypeId} {os : Array Obj} {L : List (Int × Int)} (h : OwnL sendV 2 w base e (.slice (some ⟨g, 0, none⟩) L.length cap) L) (d' : Array (Int × Int)) (hd : d'.toList = CM.sortL L) :
    OwnL sendV 2 (sortWorldK sendV 2 w g 0 n d' os) base e (.slice (some ⟨g, 0, none⟩) L.length cap) (CM.sortL L) := by
  have hl : (CM.sortL L).length = L.length := (CM.sortL_perm L).length_eq
  have hs : d'.size = L.length := by rw [← hl, ← hd]; simp
  obtain ⟨h0, h1⟩ := h
  rcases h1 with ⟨hv, _⟩ | ⟨g', cap', cur, hv, hb, hh, hn, hm, hc, ht⟩
  · cases hv
  cases hv
  refine ⟨by rw [row_len sendV_len], .inr ⟨g, cap, _, by rw [hl], hb, heap_sortedK d' hh, by omega, hm, by simp [putCells, hc], ?_⟩⟩
  have e1 : (CM.sortL L).length * 2 = (flatK sendV 2 d').size := by rw [size_flatK, hs, hl]
  rw [e1, take_putK _ _ (by rw [size_flatK, hs, hc]; exact Nat.mul_le_mul_right 2 hn), flat_row, hd]
theorem OwnL.holds {w : World} {base g cap : Nat} {e : TypeId} {L : List (Int × Int)} (h : OwnL sendV 2 w base e (.slice (some ⟨g, 0, none⟩) L.length cap) L) : HoldsK sendV 2 w g 0 L.toArray ∧ g < w.heap.size := by
  obtain ⟨_, h1⟩ := h
  rcases h1 with ⟨hv, _⟩ | ⟨g', cap', cur, hv, hb, hh, hn, hm, hc, ht⟩
  · cases hv
  cases hv
  exact ⟨holds_own hh ht, (Array.getElem?_eq_some_iff.1 hh).1⟩
end Go.Proofs.YtokcalmmmfakcaaGreat.Zp

namespace Go.Proofs.YtokcalmmmfakcaaGreat.Zp
set_option linter.unusedVariables false
open Go.RowKit Go.Proofs.YtokcalmmmfakcaaGreat.Zp.RowK Go.Shelf Go.Sort Go.Lib

set_option maxHeartbeats 2000000 in
theorem lowest1_grew (a0 a1 b0 b1 : Int) (w : World) : Calls Tryz.prog 139 #[.agg #[.int .i64 a0, .int .i64 a1], .agg #[.int .i64 b0, .int .i64 b1]] w fun e w' => e = .returned (.int .i64 (lineC (a0, a1) (b0, b1))) ∧ Grew w w' := by
  have c1 := hidd (fun W => compare_any a0 b0 W)
  have c2 := hidd (fun W => compare_any a1 b1 W)
  have co := hidd (fun b W h0 h1 => or_any (cmpV a0 b0) (cmpV a1 b1) b W h0 h1)
  unfold lineC
  dsimp only
  generalize cmpV a0 b0 = x at *
  generalize cmpV a1 b1 = y at *
  generalize orV x y = z at *
  go_enter Tryz.func139, Tryz.ntmps139
  go_wp2_with fail
  go_region_held3 (fun w' => w'.cell? ⟨w.heap.size, 0, none⟩ = some (.int .i64 a0) ∧ w'.cell? ⟨w.heap.size, 1, none⟩ = some (.int .i64 a1) ∧ w'.cell? ⟨w.heap.size + 1, 0, none⟩ = some (.int .i64 b0) ∧ w'.cell? ⟨w.heap.size + 1, 1, none⟩ = some (.int .i64 b1))
    ((first | go_keep | (simp [go_sem]; done) | (refine ⟨?_, ?_, ?_, ?_⟩ <;> simp [go_sem])))
    ((first
      | (go_at_call_of 141 (Value.int IntKind.i64 a0); refine (c1.out _).mono ?_; rintro E w1 ⟨rfl, rfl⟩)
      | (go_at_call_of 141 (Value.int IntKind.i64 a1); refine (c2.out _).mono ?_; rintro E w1 ⟨rfl, rfl⟩)
      | (go_at_call 140; refine (co.out _ _ (by simp [go_sem]) (by simp [go_sem])).mono ?_; rintro E w1 ⟨rfl, rfl⟩)))
  all_goals go_wp2_with fail
  all_goals go_ret
  all_goals (refine ⟨rfl, ?_⟩; repeat' (first | with_reducible exact Grew.refl _ | with_reducible apply Grew.alloc | with_reducible apply Grew.drew | with_reducible apply Grew.drewN))
theorem lowest1_lays (blk off size : Nat) (w : World) : CmpLays Tryz.prog 139 #[] sendV 2 lineC blk off size w :=
  fun _ _ _ _ x y => lowest1_grew x.1 x.2 y.1 y.2 _
theorem joined_in (F : Fence) (n : Nat) (h48 : F.fn 138) (hro : F.round = none) (a : Option Addr) (len cap : Nat) (w : World) :
    CallsIn F n Tryz.prog 138 #[.slice a len cap] w fun e w' => e = .returned (.func (.func 150) #[] #[.pointer (some ⟨w.heap.size, 0, none⟩)]) ∧ w' = w.alloc (.cells #[.slice a len cap] 141) := by
  refine callsIn_of_wp Tryz.func138 rfl h48 ?_ hro
  simp only [Tryz.ntmps138, List.size_toArray, List.length_cons, List.length_nil, Nat.reduceAdd, Nat.reduceSub, Array.replicate_succ, Array.replicate_zero, List.push_toArray, List.append_toArray, List.nil_append, List.cons_append]
  gi_wp2
  go_ret
  exact ⟨rfl, rfl⟩
theorem joined_stops (F : Fence) (n : Nat) (h61 : F.fn 150) (hro : F.round = none) (hn : 1 ≤ n) (Bs n₀ : Nat) (A : Option Addr) (k : Nat) (cs : List Crv) (hlen : cs.length ≤ 1000000) (hlen2 : ∀ c ∈ cs, c.2.length ≤ 1000000) (w : World) (hBs : Bs < w.heap.size) (hn₀ : n₀ ≤ w.heap.size)
    (hc : w.cell? ⟨Bs, 0, none⟩ = some (.slice A cs.length k)) (hC : Curves w n₀ A cs) :
    SeqStopsK F n Tryz.prog 150 #[.pointer (some ⟨Bs, 0, none⟩)] (fun x : Int × Int => #[Value.agg #[.int .i64 x.1, .int .i64 x.2]]) (Below n₀) (fun ys => ys = allLines cs) (fun pre => pre <+: allLines cs) (allLines cs).length w := fun l J Jx W hW hJ _ hY h0 =>
  joined1_in F n h61 hro hn l Bs n₀ A k cs hlen hlen2 J Jx W (Nat.le_trans hn₀ hW.size) hJ hY ((hW.cell (p := ⟨Bs, 0, none⟩) hBs).trans hc) (hC.keep (hW.mono hn₀)) h0
end Go.Proofs.YtokcalmmmfakcaaGreat.Zp

namespace Go.Proofs.YtokcalmmmfakcaaGreat.Zp
set_option linter.unusedVariables false
open Go.RowKit Go.Proofs.YtokcalmmmfakcaaGreat.Zp.RowK Go.Shelf Go.Sort Go.Lib
attribute [local go_sem] Oper.semAt_some

theorem OwnL.base {w : World} {b b' : Nat} {e : TypeId} {v : Value} {L : List (Int × Int)} (h : OwnL sendV 2 w b' e v L) (hb : b ≤ b') : OwnL sendV 2 w b e v L := by
  obtain ⟨h0, h1⟩ := h
  refine ⟨h0, ?_⟩
  rcases h1 with h | ⟨g, cap, cur, e1, e2, e3⟩
  · exact .inl h
  · exact .inr ⟨g, cap, cur, e1, Nat.le_trans hb e2, e3⟩
theorem lineInfo : (Tryz.prog.info? 68).map (fun i => (i.zero, i.size, i.bytes)) = some (some (.agg #[.int .i64 0, .int .i64 0]), 2, 16) := by kernel_rfl
theorem cell_two_new (w : World) (x y : Value) (t : TypeId) : ∀ j u, [x, y][j]? = some u → (w.alloc (.cells #[x, y] t)).cell? ((⟨w.heap.size, 0, none⟩ : Addr).add j) = some u := by
  intro j u hj
  match j, hj with
  | 0, hj => simp at hj; subst hj; simp [Addr.add, go_sem]
  | 1, hj => simp at hj; subst hj; simp [Addr.add, go_sem]
theorem LineBox.kept2 {X Y : World} {b : Nat} {x y : Int} {row : Option Nat} (h : LineBox X b x y) (hg : X.grownBy Y row) (hr : ∀ r, row = some r → ∃ o : Obj, X.heap[r]? = some o ∧ o.isCells = false) : LineBox Y b x y :=
  ⟨Nat.lt_of_lt_of_le h.1 hg.size, cell_kept h.2.1 hg hr, cell_kept h.2.2 hg hr⟩
theorem LineBox.new (w : World) (t : TypeId) (x y : Int) : LineBox (w.alloc (.cells #[.int .i64 x, .int .i64 y] t)) w.heap.size x y := ⟨by simp, by simp [go_sem], by simp [go_sem]⟩
def SortsLines : Prop := ∀ (g cap base : Nat) (L : List (Int × Int)) (W : World), L.length ≤ 1000000 → OwnL sendV 2 W base 68 (.slice (some ⟨g, 0, none⟩) L.length cap) L →
  Calls Tryz.prog 149 #[.slice (some ⟨g, 0, none⟩) L.length cap, .func (.func 139) #[] #[]] W fun e w' => e = .returned (.tuple #[]) ∧ OwnL sendV 2 w' base 68 (.slice (some ⟨g, 0, none⟩) L.length cap) (CM.sortL L) ∧ W.grownBy w' (some g)
set_option maxRecDepth 100000 in
set_option maxHeartbeats 4000000 in
theorem inOrder_any (hsort : SortsLines) (Bs : Nat) (A : Option Addr) (k : Nat) (cs : List Crv) (hlen : cs.length ≤ 1000000) (hlen2 : ∀ c ∈ cs, c.2.length ≤ 1000000) (hall : (allLines cs).length ≤ 1000000) (hne : allLines cs ≠ []) (w : World) (hBs : Bs < w.heap.size)
    (hc : w.cell? ⟨Bs, 0, none⟩ = some (.slice A cs.length k)) (hC : Curves w w.heap.size A cs) :
    Calls Tryz.prog 137 #[.func (.func 150) #[] #[.pointer (some ⟨Bs, 0, none⟩)], .func (.func 139) #[] #[]] w fun e w' =>
      ∃ g cap, e = .returned (.slice (some ⟨g, 0, none⟩) (allLines cs).length cap) ∧ OwnL sendV 2 w' w.heap.size 68 (.slice (some ⟨g, 0, none⟩) (allLines cs).length cap) (CM.sortL (allLines cs)) ∧ Below w.heap.size w w' := by
  obtain ⟨i0, hi, hz0, hz1, hz2⟩ := info_parts lineInfo
  have HC := hidd hC
  have HN := hidd hne
  have HS := hidd hsort
  clear hC hne hsort
  refine (callsIn_wide (n := 6)).1 ?_
  refine callsIn_of_wp_marks Tryz.func137 rfl trivial ?_ rfl
  simp only [Tryz.ntmps137, List.size_toArray, List.length_cons, List.length_nil, Nat.reduceAdd, Nat.reduceSub, Array.replicate_succ, Array.replicate_zero, List.push_toArray, List.append_toArray, List.nil_append, List.cons_append]
  gi_wp2
  have bL := Boxed.new w 22 (.slice none 0 0)
  have hB0 : Below w.heap.size w (w.alloc (.cells #[.slice none 0 0] 22)) := (Below.refl _ w).alloc (Nat.le_refl _) _
  refine wpIn_rangeFunc_ownH rfl (by omega) (gf := 150) (lb := #[.pointer (some ⟨Bs, 0, none⟩)]) rfl trivial (enters_of Tryz.func150 (by kernel_rfl) rfl)
    (joined_stops Fence.wide (6 - 1) trivial rfl (by omega) Bs w.heap.size A k cs hlen hlen2 _ (by (first | omega | (simp; done) | (simp; omega))) (by (first | omega | (simp; done) | (simp; omega))) (by rw [hB0.cell (by simpa using hBs)]; exact hc) (HC.out.keep hB0)) belowK_t (belowK_b (by (first | omega | (simp; done) | (simp; omega)))) (Below.refl _ _) (fun _ => rfl)
    (fun pre W => (∃ v, Boxed W w.heap.size 22 v ∧ W.ownsRow w.heap.size 68 2 v pre.length (rowOf sendV pre) ∧ True) ∧ Below w.heap.size w W)
    (fun _ _ _ => False)
    (OwnFrom.and (Own.from (holdsRow_own w.heap.size w.heap.size 22 68 2 (fun pre => pre.length) (fun pre => rowOf sendV pre) (fun _ _ => True)) _) (ownFrom_below (Nat.le_refl _) (by (first | omega | (simp; done) | (simp; omega)))))
    (fun _ _ _ _ _ hs _ _ => hs)
    ⟨⟨_, bL, World.ownsRow_nil _ _ _ _, trivial⟩, hB0⟩
    (fun x a' W => ∃ Bx, w.heap.size < Bx ∧ LineBox W Bx x.1 x.2 ∧ a' = { tmps := #[.func (.func 150) #[] #[.pointer (some ⟨Bs, 0, none⟩)], .func (.func 139) #[] #[], undef, undef, .slice none 0 0, .pointer (some ⟨w.heap.size, 0, none⟩), .pointer (some ⟨Bx, 0, none⟩), .func (.func 150) #[] #[.pointer (some ⟨Bs, 0, none⟩)], .agg #[.int .i64 x.1, .int .i64 x.2], undef, undef, undef, undef, undef, undef, undef, undef], defers := [] })
    (fun x a' _ X Y row hs hg hr => by obtain ⟨Bx, h1, h2, h3⟩ := hs; exact ⟨Bx, h1, h2.kept2 hg (fun r e => (hr r e).2), h3⟩)
    ?assign ?body ?done ?stop
  case assign =>
    rintro l pre x W K ⟨⟨v, hv, hrow, _⟩, hB⟩ hK
    gi_wp2
    exact hK _ _ ((KeepsOthers.alloc _ _).from _) ((Below.refl _ W).alloc hB.size _) ⟨⟨_, hv.alloc _, hrow.alloc _, trivial⟩, hB.alloc hB.size _⟩ ⟨W.heap.size, hv.lt, LineBox.new W _ _ _, rfl⟩
  case body =>
    rintro l pre x a' W hl ⟨r, hr⟩ ⟨⟨v, hv, hrow, _⟩, hB⟩ ⟨Bx, hBx, ⟨hb, x0, x1⟩, rfl⟩ hlt
    have hcv := hv.cell
    have hp : pre.length < 1000000 := by omega
    obtain ⟨a0, a1⟩ := x
    dsimp only at x0 x1
    gi_wp2_with (gi_at_builtin; refine wpListIn_append_own _ rfl _ _ 22 rfl w.heap.size 68 i0 (.agg #[.int .i64 0, .int .i64 0]) 2 16 Tryz.underlying22 hi hz0 hz1 hz2 rfl (by decide) _ _ _ rfl (hrow.alloc _) ⟨W.heap.size, 0, none⟩ 1 1 [.int .i64 a0, .int .i64 a1] rfl rfl (cell_two_new _ _ _ _) (by simp [Value.oneCell']) (by unfold maxLen; omega) (by omega) (by have := hB.size; simp; omega) ?_; intro v' w1 hown' hgrow _; obtain ⟨g', cap', rfl⟩ := ownsRow_succ hown'; obtain ⟨hv1, hv2, hr2, hk2, hb2⟩ := hv.appended (by decide) hrow hB.size (Nat.le_refl _) hown' hgrow; have hc1 := hv1.cell; have hf1 := hv1.frozen)
    have hr3 : OwnL sendV 2 _ w.heap.size 68 _ (pre ++ [(a0, a1)]) := OwnL.snoc (f := sendV) (L := pre) (x := (a0, a1)) hr2 rfl rfl
    exact ⟨hk2.from _, hb2, And.intro ⟨_, hv2, hr3⟩ (hB.trans hb2)⟩
  case done =>
    rintro D ys W hD rfl ⟨⟨v, hv, hrow, _⟩, hB⟩ hK
    have hcv := hv.cell
    have hfv := hv.frozen
    obtain ⟨m, hm⟩ : ∃ m, (allLines cs).length = m + 1 := ⟨(allLines cs).length - 1, by have := List.length_pos_iff.2 HN.out; omega⟩
    have hrow2 := hrow
    rw [hm] at hrow2
    obtain ⟨g, cap, rfl⟩ := ownsRow_succ hrow2
    rw [← hm] at hcv hrow hv
    clear hrow2 hm
    have HO : Hid (OwnL sendV 2 W w.heap.size 68 (.slice (some ⟨g, 0, none⟩) (allLines cs).length cap) (allLines cs)) := hidd hrow
    have HV := hidd hv
    have HB := hidd hB
    have cS := hidd (HS.out g cap w.heap.size (allLines cs) W hall HO.out)
    clear hrow hv hB
    obtain ⟨hg0, hg1⟩ := HO.out.lt g rfl
    have hnr := HV.out.not_row (by decide) HO.out
    have hDg : D ≠ g := fun e => by
      subst e
      obtain ⟨_, h1⟩ := HO.out
      rcases h1 with ⟨h2, _⟩ | ⟨g', _, _, h2, _, h3, _⟩
      · cases h2
      · cases h2; rw [hK] at h3; cases h3
    have HD := hidd hDg
    have HNR := hidd hnr
    have HK := hidd hK
    clear hDg hnr hK
    gi_wp2
    refine ⟨trivial, ?_⟩
    refine (callsIn_wide.2 cS.out).mono ?_
    rintro e W2 ⟨rfl, hO2, hg2⟩
    have hV2 := HV.out.kept hg2 HNR.out
    have hcv2 := hV2.cell
    have hK2 : W2.heap[D]? = some (.deferred (some [])) := (hg2.block D (Array.getElem?_eq_some_iff.1 HK.out).1 (fun e => HD.out (by injection e))).trans HK.out
    have HK2 := hidd hK2
    have HO2 := hidd hO2
    have HG2 := hidd hg2
    clear hK2 hO2 hg2 hV2 hcv
    gi_wp2
    refine ⟨by simp, .inl ⟨_, _, rfl, run_takeDeferred HK2.out, ?_⟩⟩
    exact ⟨_, results_tmp rfl _ _ _, g, cap, rfl, And.intro (ownsRow_putObj HO2.out _ HK2.out rfl) ((HB.out.trans ((Below.refl w.heap.size W).grown HG2.out HB.out.size (fun k e => by injection e with e; omega))).trans (belowK_b (w := w) (Nat.le_refl _) W2 D _ _ (by simp at hD; omega) HK2.out rfl rfl))⟩
  case stop =>
    rintro D c pre W _ _ h _
    exact h.elim
end Go.Proofs.YtokcalmmmfakcaaGreat.Zp

namespace Go.Proofs.YtokcalmmmfakcaaGreat.Zp
set_option linter.unusedVariables false
open Go.RowKit Go.Proofs.YtokcalmmmfakcaaGreat.Zp.RowK Go.Shelf Go.Sort Go.Lib

theorem sortsLines : SortsLines := fun g cap base L W hL hO => by
  obtain ⟨hH, hb⟩ := hO.holds
  have eg : ∀ args w, (callFunc 139 args).run Tryz.prog w = .ok (.enter 139 args) w := enters_of Tryz.func139 (by kernel_rfl) rfl
  have h := AnyQ.slices_SortFunc Tryz.sortLine 2 Tryz.isAgg68 Tryz.sizeOf68 sendV sendV_len (fun x => sendV_one x) lineC lineO 139 #[] g 0 cap L.toArray W eg (lowest1_lays g 0 L.toArray.size W) hH hb (by simp; omega)
  change Calls Tryz.prog 149 _ _ _ at h
  rw [List.size_toArray] at h
  refine h.mono ?_
  rintro e w' ⟨rfl, d', n, os, hp, hs, rfl⟩
  have hd := line_sorted L.toArray d' (by simpa using hp) (by simpa using hs)
  exact ⟨rfl, hO.sorted d' hd, grownBy_sortedK d'⟩
end Go.Proofs.YtokcalmmmfakcaaGreat.Zp

namespace Go.Proofs.YtokcalmmmfakcaaGreat.Zp
set_option linter.unusedVariables false
open Go.RowKit Go.Proofs.YtokcalmmmfakcaaGreat.Zp.RowK

theorem row_take (f : Int × Int → List Value) (hf : ∀ x, (f x).length = 2) (L : List (Int × Int)) (m : Nat) : (rowOf f L).take (m * 2) = rowOf f (L.take m) := by
  induction L generalizing m with
  | nil => simp [rowOf]
  | cons x L ih =>
    cases m with
    | zero => simp [rowOf]
    | succ m =>
      have e : (m + 1) * 2 = (f x).length + m * 2 := by rw [hf]; omega
      simp only [rowOf, List.flatMap_cons, List.take_succ_cons] at *
      rw [e, List.take_length_add_append, ih m]
theorem OwnL.take {w : World} {base g cap : Nat} {e : TypeId} {L : List (Int × Int)} (h : OwnL sendV 2 w base e (.slice (some ⟨g, 0, none⟩) L.length cap) L) {m : Nat} (hm : m ≤ L.length) : OwnL sendV 2 w base e (.slice (some ⟨g, 0, none⟩) m cap) (L.take m) := by
  have hl : (L.take m).length = m := CM.take_len hm
  obtain ⟨h0, h1⟩ := h
  rcases h1 with ⟨hv, _⟩ | ⟨g', cap', cur, hv, hb, hh, hn, hc1, hc, ht⟩
  · cases hv
  cases hv
  refine ⟨by rw [row_len sendV_len], .inr ⟨g, cap, cur, by rw [hl], hb, hh, by omega, hc1, hc, ?_⟩⟩
  rw [hl, ← row_take sendV sendV_len, ← ht, List.take_take, Nat.min_eq_left (by omega)]
theorem add_zero_off (g j : Nat) : (⟨g, 0, none⟩ : Addr).add j = ⟨g, j, none⟩ := by
  unfold Addr.add
  by_cases h : j = 0
  · subst h; simp
  · simp [h]
theorem OwnL.form {w : World} {base : Nat} {e : TypeId} {v : Value} {L : List (Int × Int)} (h : OwnL sendV 2 w base e v L) (h0 : 0 < L.length) : ∃ g cap, v = .slice (some ⟨g, 0, none⟩) L.length cap ∧ (base ≤ g ∧ g < w.heap.size) ∧ (L.length ≤ cap ∧ cap ≤ maxLen) ∧ ∀ i, i < L.length → w.cell? ⟨g, i * 2, none⟩ = some (.int .i64 (SM.av L i)) ∧ w.cell? ⟨g, i * 2 + 1, none⟩ = some (.int .i64 (SM.sv L i)) := by
  have h' := h
  obtain ⟨_, h1⟩ := h
  rcases h1 with ⟨hv, hn⟩ | ⟨g', cap', cur, rfl, hb, hh, hn, hc1, hc, ht⟩
  · omega
  refine ⟨g', cap', rfl, ⟨hb, (Array.getElem?_eq_some_iff.1 hh).1⟩, ⟨hn, hc1⟩, fun i hi => ?_⟩
  obtain ⟨A, c, e1, _, _, hl⟩ := h'.lie sendV_len
  injection e1 with e1
  subst e1
  obtain ⟨ad, e2, _, x0, x1⟩ := hl.send i hi
  injection e2 with e2
  subst e2
  rw [(av_at hi).1] at x0
  rw [(av_at hi).2] at x1
  rw [add_zero_off] at x0 x1
  exact ⟨x0, x1⟩
/-- may all of some lines be. -/
def okL (L : List (Int × Int)) : Prop := ∀ x ∈ L, 0 ≤ x.1 ∧ x.1 ≤ 2000000000 ∧ 0 ≤ x.2 ∧ x.2 ≤ 2000000000
theorem okL.at_ {L : List (Int × Int)} (h : okL L) {i : Nat} (hi : i < L.length) : 0 ≤ SM.av L i ∧ SM.av L i ≤ 2000000000 ∧ 0 ≤ SM.sv L i ∧ SM.sv L i ≤ 2000000000 := by
  have := h L[i] (List.getElem_mem hi)
  rw [(av_at hi).1, (av_at hi).2] at this
  exact this
theorem hull_ok {S : List (Int × Int)} (h : okL S) (q : Nat) : okL (CM.hull (S.take q)) := fun x hx => h x (List.mem_of_mem_take (CM.hull_mem _ x hx))
theorem hull_next {S : List (Int × Int)} {q : Nat} (h : q < S.length) : CM.hull (S.take (q + 1)) = CM.keep (CM.hull (S.take q)) (SM.av S q, SM.sv S q) (CM.hull (S.take q)).length := by
  rw [take_one h, CM.hull_snoc]
theorem hull_short (S : List (Int × Int)) (q : Nat) : (CM.hull (S.take q)).length ≤ q := Nat.le_trans (CM.hull_len _) (by simp; omega)
set_option maxRecDepth 100000 in
set_option maxHeartbeats 4000000 in
theorem lowest_any (A : Option Addr) (k : Nat) (cs : List Crv) (hlen : cs.length ≤ 1000000) (hlen2 : ∀ c ∈ cs, c.2.length ≤ 1000000) (hall : (allLines cs).length ≤ 1000000) (hne : allLines cs ≠ []) (hok : okL (allLines cs)) (w : World) (hC : Curves w w.heap.size A cs) :
    Calls Tryz.prog 125 #[.slice A cs.length k] w fun e w' => ∃ v, e = .returned v ∧ OwnL sendV 2 w' w.heap.size 68 v (CM.low (allLines cs)) ∧ Below w.heap.size w w' := by
  have hb0 := below_new (Below.refl w.heap.size w) (.cells #[.slice A cs.length k] 141)
  have cj := hidd (fun W => callsIn_wide.1 (joined_in Fence.wide 6 trivial rfl A cs.length k W))
  have co := hidd (inOrder_any sortsLines w.heap.size A k cs hlen hlen2 hall hne (w.alloc (.cells #[.slice A cs.length k] 141)) (by simp) (by simp [go_sem]) ((hC.keep hb0).more (by simp)))
  obtain ⟨i0, hi, hz0, hz1, hz2⟩ := info_parts lineInfo
  have hSl : (CM.sortL (allLines cs)).length = (allLines cs).length := (CM.sortL_perm _).length_eq
  have hSok : okL (CM.sortL (allLines cs)) := fun x hx => hok x ((CM.sortL_perm _).mem_iff.1 hx)
  have hlow : CM.low (allLines cs) = CM.hull ((CM.sortL (allLines cs)).take (CM.sortL (allLines cs)).length) := by rw [List.take_length]; rfl
  rw [hlow]
  rw [← hSl] at co hall
  have hS1 : 0 < (CM.sortL (allLines cs)).length := by rw [hSl]; exact List.length_pos_iff.2 hne
  clear hC hok hSl hlow hne
  generalize CM.sortL (allLines cs) = S at *
  have HSok := hidd hSok
  have HB0 := hidd hb0
  clear hSok hb0
  go_enter Tryz.func125, Tryz.ntmps125
  go_wp2_with fail
  go_step3
  go_wp2_with fail
  refine (cj.out _).mono ?_
  rintro e w1 ⟨rfl, rfl⟩
  go_wp2_with fail
  refine co.out.mono ?_
  rintro e w1 ⟨g, cap, rfl, hO, hB⟩
  have HS := hidd hO
  have HB := hidd (HB0.out.trans (hB.mono HB0.out.size))
  clear hO hB
  go_wp2_with fail
  go_step3
  go_wp2_with fail
  obtain ⟨hg0, hg1⟩ := HS.out.lt g rfl
  obtain ⟨g2, cap2, e2, _, _, hcells⟩ := HS.out.form hS1
  obtain ⟨rfl, rfl⟩ : g = g2 ∧ cap = cap2 := by cases e2; exact ⟨rfl, rfl⟩
  have HC := hidd hcells
  clear hcells e2
  go_loopg [4, 13] (S.length + 2) (fun k s4 s13 wr => ∃ q : Nat, q ≤ S.length ∧ q + k = S.length + 2 ∧ s13 = .int .i64 (q : Int) ∧ OwnL sendV 2 wr w1.heap.size 68 s4 (CM.hull (S.take q)) ∧ Below w1.heap.size w1 wr)
  case atStart => exact ⟨0, by omega, by omega, rfl, OwnL.nil _ _ _, Below.refl _ _⟩
  case round =>
    obtain ⟨q, hq, hg, rfl, hO, hB2⟩ := hrel
    have HG := hidd hg
    clear hg
    by_cases hin : q < S.length
    · have hin2 : (q : Int) < (S.length : Int) := by omega
      have hq0 : (0 : Int) ≤ (q : Int) := by omega
      obtain ⟨x0, x1⟩ := HC.out q hin
      have y0 := (hB2.cell (p := ⟨g, q * 2, none⟩) hg1).trans x0
      have y1 := (hB2.cell (p := ⟨g, q * 2 + 1, none⟩) hg1).trans x1
      have HKP := hidd (hull_next hin)
      have hHs := hull_short S q
      have HOK := hidd (hull_ok HSok.out q)
      obtain ⟨o0, o1, o2, o3⟩ := HSok.out.at_ hin
      clear x0 x1
      generalize CM.hull (S.take q) = H at *
      generalize SM.av S q = a0 at *
      generalize SM.sv S q = a1 at *
      have HO := hidd hO
      have HB2 := hidd hB2
      obtain ⟨A4, c4, rfl, hc40, hc41, _⟩ := hO.lie sendV_len
      clear hO hB2
      go_wp2_with fail
      obtain ⟨gko, rfl⟩ : ∃ g', g' = gk := ⟨gk, rfl⟩
      obtain ⟨wo, rfl⟩ : ∃ wo : World, wo = wr := ⟨_, rfl⟩
      have hbx := LineBox.new wo 68 a0 a1
      have HBX := hidd hbx
      clear hbx
      go_loopg [4, 7] (H.length + 2) (fun k s4 s7 wx => ∃ m : Nat, m ≤ H.length ∧ k = m + 2 ∧ s7 = .int .i64 (m : Int) ∧ OwnL sendV 2 wx w1.heap.size 68 s4 (H.take m) ∧ Hid (CM.keep H (a0, a1) H.length = CM.keep H (a0, a1) m) ∧ Below w1.heap.size w1 wx ∧ LineBox wx wo.heap.size a0 a1)
      case atStart => exact ⟨H.length, by omega, by omega, rfl, by rw [List.take_length]; exact HO.out.alloc _, hidd rfl, below_new HB2.out _, HBX.out⟩
      case round =>
        obtain ⟨m, hm, hg, rfl, hO3, HEQ, hB3, hX3⟩ := hrel
        have HGI := hidd hg
        have HO3 := hidd hO3
        have HB3 := hidd hB3
        obtain ⟨hx9, x0, x1⟩ := id hX3
        have HX3 := hidd hX3
        have hml := CM.take_len hm
        have hml2 : (H.take m).length ≤ 1000000 := by omega
        clear hg hX3
        rcases Nat.eq_zero_or_pos m with rfl | hm0
        · clear hO3 hB3 hml
          have HKe : CM.hull (S.take (q + 1)) = H.take (0) ++ [(a0, a1)] := by rw [HKP.out, HEQ.out]; rfl
          have HKE := hidd HKe
          clear HKe
          go_wp2_with (at_builtin; refine wpList_append_some (by rfl) (.tmp 60) (.tmp 62) _ (by rfl) w1.heap.size 68 i0 _ 2 16 Tryz.underlying23 hi hz0 hz1 hz2 rfl (by omega) _ _ _ (by rfl) (World.ownsRow.alloc HO3.out _) (some ⟨_, 0, none⟩) 1 1 [.int .i64 a0, .int .i64 a1] (by rfl) (by rfl) (fun _ => ⟨_, rfl, World.news_of_block (cs := #[.int .i64 a0, .int .i64 a1]) (t := 68) (fr := (0, 0)) (heap_alloc_new _ _)⟩) (by simp [Value.oneCell']) (by simp only [maxLen]; omega) (by omega) (by have := HB3.out.size; first | omega | (simp; omega)) ?_; intro v1 wa hown1 hgrow1 hat1)
          have hB4 : Below w1.heap.size w1 wa := Below.grown (below_new HB3.out _) hgrow1 (by have := HB3.out.size; first | omega | (simp; omega)) (fun k hk => (OwnL.lt HO3.out k hk).1)
          have hO4 : OwnL sendV 2 wa w1.heap.size 68 v1 (CM.hull (S.take (q + 1))) := by rw [HKE.out]; exact OwnL.snoc (f := sendV) (L := H.take (0)) (x := (a0, a1)) hown1 rfl rfl
          have hgk := HG.out
          have hB4' := hidd hB4
          have hO4' := hidd hO4
          clear hB4 hO4 hown1 hgrow1 hat1
          go_wp2_with fail
          go_roundg (gko - 1)
          case measure => omega
          case rel => exact ⟨q + 1, by omega, by omega, by go_num, hO4'.out, hB4'.out⟩
        · obtain ⟨p, rfl⟩ : ∃ p, m = p + 1 := ⟨m - 1, by omega⟩
          obtain ⟨g3, cap3, rfl, ⟨hg30, hg31⟩, ⟨hc30, hc31⟩, hcl⟩ := hO3.form (by omega)
          rw [hml] at hc30 hcl HO3 ⊢
          obtain ⟨z0, z1⟩ := hcl p (by omega)
          rw [(CM.av_take (L := H) (show p < p + 1 by omega)).1] at z0
          rw [(CM.av_take (L := H) (show p < p + 1 by omega)).2] at z1
          have HCL := hidd hcl
          have hp1 : IntKind.i64.wrap (((p + 1 : Nat) : Int) - 1) = (p : Int) := by rw [IntWalk.i64_in _ (by omega)]; omega
          have hp2 : (0 : Int) ≤ (p : Int) := by omega
          have hp3 : (p : Int) < ((p + 1 : Nat) : Int) := by omega
          have hp4 : (0 : Int) < ((p + 1 : Nat) : Int) := by omega
          have hkeep : CM.keep H (a0, a1) (p + 1) = if SM.sv H p ≤ a1 then H.take (p + 1) else if p = 0 ∨ (SM.av H p - SM.av H (p - 1)) * (SM.sv H p - a1) < (a0 - SM.av H p) * (SM.sv H (p - 1) - SM.sv H p) then H.take (p + 1) ++ [(a0, a1)] else CM.keep H (a0, a1) p := rfl
          have HKK := hidd hkeep
          obtain ⟨b0, b1, b2, b3⟩ := HOK.out.at_ (i := p) (by omega)
          clear hkeep hcl hO3 hB3 hml hm0
          by_cases hsk : SM.sv H p ≤ a1
          · have hrel1 : CM.hull (S.take (q + 1)) = H.take (p + 1) := by rw [HKP.out, HEQ.out, HKK.out, if_pos hsk]
            have HR1 := hidd hrel1
            clear hrel1
            generalize SM.sv H p = e1 at *
            generalize SM.av H p = e0 at *
            go_wp2_with fail
            go_quiet (fail)
            go_wp2_with fail
            have hgk := HG.out
            go_roundg (gko - 1)
            case measure => omega
            case rel => exact ⟨q + 1, by omega, by omega, by go_num, by rw [HR1.out]; exact HO3.out, HB3.out.trans (by (repeat' (first | (with_reducible exact Below.refl _ _) | (with_reducible assumption) | (with_reducible apply Below.setCell) | (with_reducible apply Below.alloc) | (with_reducible apply Below.drew) | (with_reducible apply below_drewN) | (with_reducible refine Below.trans ?_ (Below.mono (by assumption) ?_)) | omega | (simp; done) | (simp; omega))))⟩
          · have hcut0 := HB3.out
            have hlt1 : a1 < SM.sv H p := by omega
            go_wp2_with fail
            go_cut [31] (fun s wx => s = .bool false ∧ OwnL sendV 2 wx w1.heap.size 68 (.slice (some ⟨g3, 0, none⟩) (p + 1) cap3) (H.take (p + 1)) ∧ Below w1.heap.size w1 wx ∧ LineBox wx wo.heap.size a0 a1)
            case first =>
              generalize SM.sv H p = e1 at *
              generalize SM.av H p = e0 at *
              go_quiet (fail)
              go_wp2_with fail
              go_meet
              exact ⟨by simp; omega, HO3.out, HB3.out.trans (by (repeat' (first | (with_reducible exact Below.refl _ _) | (with_reducible assumption) | (with_reducible apply Below.setCell) | (with_reducible apply Below.alloc) | (with_reducible apply Below.drew) | (with_reducible apply below_drewN) | (with_reducible refine Below.trans ?_ (Below.mono (by assumption) ?_)) | omega | (simp; done) | (simp; omega)))), HX3.out.step (by (repeat' (first | (with_reducible exact Below.refl _ _) | (with_reducible assumption) | (with_reducible apply Below.setCell) | (with_reducible apply Below.alloc) | (with_reducible apply Below.drew) | (with_reducible apply below_drewN) | (with_reducible refine Below.trans ?_ (Below.mono (by assumption) ?_)) | omega | (simp; done) | (simp; omega))))⟩
            case rest =>
              obtain ⟨rfl, hO5, hB5, hX5⟩ := hcut
              have HO5 := hidd hO5
              have HB5 := hidd hB5
              have HX5 := hidd hX5
              clear HO3 HB3 HX3 hcut0 hO5 hB5 hX5 x0 x1 z0 z1 HCL
              by_cases hp0 : p = 0
              · subst hp0
                have hone : CM.keep H (a0, a1) (0 + 1) = H.take (0 + 1) ++ [(a0, a1)] := by rw [HKK.out, if_neg (by omega), if_pos (.inl rfl)]
                have HONE := hidd hone
                clear hone
                go_wp2_with fail
                go_cut [55] (fun s wx => s = .bool true ∧ OwnL sendV 2 wx w1.heap.size 68 (.slice (some ⟨g3, 0, none⟩) (0 + 1) cap3) (H.take (0 + 1)) ∧ Below w1.heap.size w1 wx ∧ LineBox wx wo.heap.size a0 a1)
                case first =>
                  go_quiet (fail)
                  go_wp2_with fail
                  go_meet
                  exact ⟨rfl, HO5.out, HB5.out.trans (by (repeat' (first | (with_reducible exact Below.refl _ _) | (with_reducible assumption) | (with_reducible apply Below.setCell) | (with_reducible apply Below.alloc) | (with_reducible apply Below.drew) | (with_reducible apply below_drewN) | (with_reducible refine Below.trans ?_ (Below.mono (by assumption) ?_)) | omega | (simp; done) | (simp; omega)))), HX5.out.step (by (repeat' (first | (with_reducible exact Below.refl _ _) | (with_reducible assumption) | (with_reducible apply Below.setCell) | (with_reducible apply Below.alloc) | (with_reducible apply Below.drew) | (with_reducible apply below_drewN) | (with_reducible refine Below.trans ?_ (Below.mono (by assumption) ?_)) | omega | (simp; done) | (simp; omega))))⟩
                case rest =>
                  obtain ⟨rfl, hO6, hB6, hX6⟩ := hcut
                  have HO3 := hidd hO6
                  have HB3 := hidd hB6
                  obtain ⟨hx9, x0, x1⟩ := id hX6
                  clear hO6 hB6 hX6
                  have HKe : CM.hull (S.take (q + 1)) = H.take (0 + 1) ++ [(a0, a1)] := by rw [HKP.out, HEQ.out]; exact HONE.out
                  have HKE := hidd HKe
                  clear HKe
                  go_wp2_with (at_builtin; refine wpList_append_some (by rfl) (.tmp 60) (.tmp 62) _ (by rfl) w1.heap.size 68 i0 _ 2 16 Tryz.underlying23 hi hz0 hz1 hz2 rfl (by omega) _ _ _ (by rfl) (World.ownsRow.alloc HO3.out _) (some ⟨_, 0, none⟩) 1 1 [.int .i64 a0, .int .i64 a1] (by rfl) (by rfl) (fun _ => ⟨_, rfl, World.news_of_block (cs := #[.int .i64 a0, .int .i64 a1]) (t := 68) (fr := (0, 0)) (heap_alloc_new _ _)⟩) (by simp [Value.oneCell']) (by simp only [maxLen]; omega) (by omega) (by have := HB3.out.size; first | omega | (simp; omega)) ?_; intro v1 wa hown1 hgrow1 hat1)
                  have hB4 : Below w1.heap.size w1 wa := Below.grown (below_new HB3.out _) hgrow1 (by have := HB3.out.size; first | omega | (simp; omega)) (fun k hk => (OwnL.lt HO3.out k hk).1)
                  have hO4 : OwnL sendV 2 wa w1.heap.size 68 v1 (CM.hull (S.take (q + 1))) := by rw [HKE.out]; exact OwnL.snoc (f := sendV) (L := H.take (0 + 1)) (x := (a0, a1)) hown1 rfl rfl
                  have hgk := HG.out
                  have hB4' := hidd hB4
                  have hO4' := hidd hO4
                  clear hB4 hO4 hown1 hgrow1 hat1
                  go_wp2_with fail
                  go_roundg (gko - 1)
                  case measure => omega
                  case rel => exact ⟨q + 1, by omega, by omega, by go_num, hO4'.out, hB4'.out⟩
              · obtain ⟨r, hr⟩ : ∃ r, p = r + 1 := ⟨p - 1, by omega⟩
                have hcl := (HO5.out.form (by rw [CM.take_len (by omega)]; omega))
                rw [CM.take_len (show p + 1 ≤ H.length by omega)] at hcl
                obtain ⟨g4, cap4, e4, ⟨hgb, hgz⟩, _, hcl⟩ := hcl
                obtain ⟨rfl, rfl⟩ : g3 = g4 ∧ cap3 = cap4 := by cases e4; exact ⟨rfl, rfl⟩
                obtain ⟨z0, z1⟩ := hcl p (by omega)
                obtain ⟨y0, y1⟩ := hcl r (by omega)
                rw [(CM.av_take (L := H) (show p < p + 1 by omega)).1] at z0
                rw [(CM.av_take (L := H) (show p < p + 1 by omega)).2] at z1
                rw [(CM.av_take (L := H) (show r < p + 1 by omega)).1] at y0
                rw [(CM.av_take (L := H) (show r < p + 1 by omega)).2] at y1
                obtain ⟨d0, d1, d2, d3⟩ := HOK.out.at_ (i := r) (by omega)
                have hp5 : IntKind.i64.wrap (((p + 1 : Nat) : Int) - 2) = (r : Int) := by rw [IntWalk.i64_in _ (by omega)]; omega
                have hp6 : (0 : Int) ≤ (r : Int) := by omega
                have hp7 : (r : Int) < ((p + 1 : Nat) : Int) := by omega
                have hp8 : ((p : Int) + 1 == 1) = false := beq_eq_false_iff_ne.2 (by omega)
                have hp9 : ((p : Int) == 0) = false := beq_eq_false_iff_ne.2 (by omega)
                have hp10 : IntKind.i64.wrap ((p : Int) + 1 - 2) = (r : Int) := by rw [IntWalk.i64_in _ (by omega)]; omega
                have hp11 : IntKind.i64.wrap ((p : Int) + 1 - 1) = (p : Int) := by rw [IntWalk.i64_in _ (by omega)]; omega
                have hp14 : IntKind.i64.wrap (p : Int) = (p : Int) := IntWalk.i64_in _ (by omega)
                have hp12 : (r : Int) < (p : Int) + 1 := by omega
                have hp13 : (p : Int) < (p : Int) + 1 := by omega
                have hkk : (¬ (SM.av H p - SM.av H r) * (SM.sv H p - a1) < (a0 - SM.av H p) * (SM.sv H r - SM.sv H p) → CM.keep H (a0, a1) (p + 1) = CM.keep H (a0, a1) p) ∧ ((SM.av H p - SM.av H r) * (SM.sv H p - a1) < (a0 - SM.av H p) * (SM.sv H r - SM.sv H p) → CM.keep H (a0, a1) (p + 1) = H.take (p + 1) ++ [(a0, a1)]) := by
                  have e5 : p - 1 = r := by omega
                  have h6 := HKK.out
                  rw [e5, if_neg (by omega)] at h6
                  constructor
                  · intro h; rw [h6, if_neg (fun h' => h'.elim hp0 h)]
                  · intro h; rw [h6, if_pos (.inr h)]
                have HKK2 := hidd hkk
                have cb1 := hidd (fun W => bendOf_any (SM.av H r) (SM.sv H r) (SM.av H p) (SM.sv H p) d0 d1 d2 d3 b0 b1 b2 b3 W)
                have cb2 := hidd (fun W => bendOf_any (SM.av H p) (SM.sv H p) a0 a1 b0 b1 b2 b3 o0 o1 o2 o3 W)
                have cag := hidd (fun W => against_any (SM.av H p - SM.av H r) (SM.sv H r - SM.sv H p) (a0 - SM.av H p) (SM.sv H p - a1) (by omega) (by omega) W)
                obtain ⟨hx9, x0, x1⟩ := id HX5.out
                obtain ⟨V, hV⟩ : ∃ V, cmpV ((SM.av H p - SM.av H r) * (SM.sv H p - a1)) ((a0 - SM.av H p) * (SM.sv H r - SM.sv H p)) = V := ⟨_, rfl⟩
                rw [hV] at cag
                have hVs : V < 0 ↔ (SM.av H p - SM.av H r) * (SM.sv H p - a1) < (a0 - SM.av H p) * (SM.sv H r - SM.sv H p) := by
                  rw [← hV]
                  generalize (SM.av H p - SM.av H r) * (SM.sv H p - a1) = X
                  generalize (a0 - SM.av H p) * (SM.sv H r - SM.sv H p) = Y
                  unfold cmpV
                  by_cases h1 : X < Y
                  · rw [if_pos h1]; omega
                  · rw [if_neg h1]; split <;> omega
                obtain ⟨T, hT⟩ : ∃ T, decide (V < 0) = T := ⟨_, rfl⟩
                have hTt : (T = true → CM.keep H (a0, a1) (p + 1) = H.take (p + 1) ++ [(a0, a1)]) ∧ (T = false → CM.keep H (a0, a1) (p + 1) = CM.keep H (a0, a1) p) := by
                  constructor
                  · intro h; exact HKK2.out.2 (hVs.1 (by rw [h] at hT; exact of_decide_eq_true hT))
                  · intro h; exact HKK2.out.1 (fun g => by have := hVs.2 g; rw [h] at hT; exact absurd this (of_decide_eq_false hT))
                have HTT := hidd hTt
                clear hTt hVs hV HKK2 HKK hcl e4 hlt1 hp1
                have hp1 : IntKind.i64.wrap (((p + 1 : Nat) : Int) - 1) = (p : Int) := by rw [IntWalk.i64_in _ (by omega)]; omega
                have hkp : ∀ w', Below wc.heap.size wc w' → w'.cell? ⟨g3, r * 2, none⟩ = some (.int .i64 (SM.av H r)) ∧ w'.cell? ⟨g3, r * 2 + 1, none⟩ = some (.int .i64 (SM.sv H r)) ∧ w'.cell? ⟨g3, p * 2, none⟩ = some (.int .i64 (SM.av H p)) ∧ w'.cell? ⟨g3, p * 2 + 1, none⟩ = some (.int .i64 (SM.sv H p)) ∧ w'.cell? ⟨wo.heap.size, 0, none⟩ = some (.int .i64 a0) ∧ w'.cell? ⟨wo.heap.size, 1, none⟩ = some (.int .i64 a1) := fun w' hb =>
                  ⟨(hb.cell (p := ⟨g3, r * 2, none⟩) hgz).trans y0, (hb.cell (p := ⟨g3, r * 2 + 1, none⟩) hgz).trans y1, (hb.cell (p := ⟨g3, p * 2, none⟩) hgz).trans z0, (hb.cell (p := ⟨g3, p * 2 + 1, none⟩) hgz).trans z1, (hb.cell (p := ⟨wo.heap.size, 0, none⟩) hx9).trans x0, (hb.cell (p := ⟨wo.heap.size, 1, none⟩) hx9).trans x1⟩
                have KEEP := hidd hkp
                clear hkp hr hp0
                generalize SM.sv H p = e1 at *
                generalize SM.av H p = e0 at *
                generalize SM.sv H r = f1 at *
                generalize SM.av H r = f0 at *
                go_wp2_with fail
                go_cut [55] (fun s wx => s = .bool T ∧ OwnL sendV 2 wx w1.heap.size 68 (.slice (some ⟨g3, 0, none⟩) (p + 1) cap3) (H.take (p + 1)) ∧ Below w1.heap.size w1 wx ∧ LineBox wx wo.heap.size a0 a1)
                case first =>
                  go_region_held3 (fun w' => w'.cell? ⟨g3, r * 2, none⟩ = some (.int .i64 f0) ∧ w'.cell? ⟨g3, r * 2 + 1, none⟩ = some (.int .i64 f1) ∧ w'.cell? ⟨g3, p * 2, none⟩ = some (.int .i64 e0) ∧ w'.cell? ⟨g3, p * 2 + 1, none⟩ = some (.int .i64 e1) ∧ w'.cell? ⟨wo.heap.size, 0, none⟩ = some (.int .i64 a0) ∧ w'.cell? ⟨wo.heap.size, 1, none⟩ = some (.int .i64 a1))
                    ((first | exact KEEP.out _ cumC | exact KEEP.out _ cumB | exact KEEP.out _ cumA | exact KEEP.out _ (Below.refl _ _) | go_keep))
                    ((first
                      | (go_at_call_of 142 (Value.agg #[Value.int IntKind.i64 f0, Value.int IntKind.i64 f1]); refine (cb1.out _).mono ?_; rintro E wa ⟨rfl, ha⟩; have cumA : Below wc.heap.size wc wa := (by first | exact below_step cumB ha | exact below_step (Below.drew (Below.refl _ _)) ha | exact below_step (Below.refl _ _) ha))
                      | (go_at_call_of 142 (Value.agg #[Value.int IntKind.i64 e0, Value.int IntKind.i64 e1]); refine (cb2.out _).mono ?_; rintro E wb ⟨rfl, hb⟩; have cumB : Below wc.heap.size wc wb := (by first | exact below_step cumA hb | exact below_step (Below.drew (Below.refl _ _)) hb | exact below_step (Below.refl _ _) hb))
                      | (go_at_call 143; refine (cag.out _).mono ?_; rintro E wg ⟨rfl, hg⟩; have cumC : Below wc.heap.size wc wg := (by first | exact below_step cumB hg | exact below_step cumA hg))))
                  all_goals go_wp2_with fail
                  all_goals go_meet
                  all_goals exact ⟨rfl, HO5.out.below cumC, HB5.out.trans (cumC.mono HB5.out.size), HX5.out.step cumC⟩
                case rest =>
                  obtain ⟨rfl, hO6, hB6, hX6⟩ := hcut
                  have HO3 := hidd hO6
                  have HB3 := hidd hB6
                  obtain ⟨hx9, x0, x1⟩ := id hX6
                  have HX6 := hidd hX6
                  clear hO6 hB6 hX6 KEEP cb1 cb2 cag hT hp5 y0 y1 z0 z1
                  cases T
                  · have hk2 := HTT.out.2 rfl
                    have hK3 : CM.keep H (a0, a1) H.length = CM.keep H (a0, a1) p := HEQ.out.trans hk2
                    have HK3 := hidd hK3
                    have hO7 := HO3.out
                    have hO8 : OwnL sendV 2 wc w1.heap.size 68 (.slice (some ⟨g3, 0, none⟩) p cap3) (H.take p) := by
                      have h8 := OwnL.take (L := H.take (p + 1)) (g := g3) (cap := cap3) (by rw [CM.take_len (show p + 1 ≤ H.length by omega)]; exact hO7) (m := p) (by rw [CM.take_len (show p + 1 ≤ H.length by omega)]; omega)
                      rw [List.take_take, Nat.min_eq_left (by omega)] at h8
                      exact h8
                    have HO8 := hidd hO8
                    have hgi := HGI.out
                    clear hk2 hK3 hO7 hO8
                    go_wp2_with fail
                    go_roundg (gk - 1)
                    case measure => omega
                    case rel => exact ⟨p, by omega, by omega, by go_num, HO8.out, HK3, HB3.out, HX6.out⟩
                  · have hone := HTT.out.1 rfl
                    have HONE := hidd hone
                    clear hone
                    have HKe : CM.hull (S.take (q + 1)) = H.take (p + 1) ++ [(a0, a1)] := by rw [HKP.out, HEQ.out]; exact HONE.out
                    have HKE := hidd HKe
                    clear HKe
                    go_wp2_with (at_builtin; refine wpList_append_some (by rfl) (.tmp 60) (.tmp 62) _ (by rfl) w1.heap.size 68 i0 _ 2 16 Tryz.underlying23 hi hz0 hz1 hz2 rfl (by omega) _ _ _ (by rfl) (World.ownsRow.alloc HO3.out _) (some ⟨_, 0, none⟩) 1 1 [.int .i64 a0, .int .i64 a1] (by rfl) (by rfl) (fun _ => ⟨_, rfl, World.news_of_block (cs := #[.int .i64 a0, .int .i64 a1]) (t := 68) (fr := (0, 0)) (heap_alloc_new _ _)⟩) (by simp [Value.oneCell']) (by simp only [maxLen]; omega) (by omega) (by have := HB3.out.size; first | omega | (simp; omega)) ?_; intro v1 wa hown1 hgrow1 hat1)
                    have hB4 : Below w1.heap.size w1 wa := Below.grown (below_new HB3.out _) hgrow1 (by have := HB3.out.size; first | omega | (simp; omega)) (fun k hk => (OwnL.lt HO3.out k hk).1)
                    have hO4 : OwnL sendV 2 wa w1.heap.size 68 v1 (CM.hull (S.take (q + 1))) := by rw [HKE.out]; exact OwnL.snoc (f := sendV) (L := H.take (p + 1)) (x := (a0, a1)) hown1 rfl rfl
                    have hgk := HG.out
                    have hB4' := hidd hB4
                    have hO4' := hidd hO4
                    clear hB4 hO4 hown1 hgrow1 hat1
                    go_wp2_with fail
                    go_roundg (gko - 1)
                    case measure => omega
                    case rel => exact ⟨q + 1, by omega, by omega, by go_num, hO4'.out, hB4'.out⟩
    · have hq : q = S.length := by omega
      subst hq
      go_wp2_with fail
      first | rw [Exit.noGoto_ret] | skip
      go_ret
      exact ⟨_, rfl, hO.base (by have := HB.out.size; omega), HB.out.trans (hB2.mono HB.out.size)⟩
end Go.Proofs.YtokcalmmmfakcaaGreat.Zp

namespace Go.Proofs.YtokcalmmmfakcaaGreat.Zp
set_option linter.unusedVariables false
open Go.RowKit Go.Proofs.YtokcalmmmfakcaaGreat.Zp.RowK

/-- may all of them be. -/
def MayAll (L : List (Int × Int)) : Prop := ∀ i, i < L.length → mayB (SM.av L i, SM.sv L i) = true
def RgtC (L : List (Int × Int)) : Prop := (1 ≤ L.length ∧ L.length ≤ 32) ∧ MayAll L ∧ Nrm L
theorem MayAll.all {L : List (Int × Int)} (h : MayAll L) : allMay L := fun i hi => by
  have := mayB_iff (h i hi)
  exact ⟨⟨this.1, by have := this.2.1; simp only at this; omega⟩, this.2.2.1, by have := this.2.2.2; simp only at this; omega⟩
def MayEnd (P : Prop) (w : World) (e : Ending) (w' : World) : Prop := ∃ R, e = .returned (.bool R) ∧ (R = true ↔ P) ∧ Below w.heap.size w w'
set_option maxRecDepth 100000 in
set_option maxHeartbeats 4000000 in
theorem right3_any (A : Option Addr) (L : List (Int × Int)) (c : Nat) (hL : L.length ≤ 1000000) (w : World) (hA : Lie sendV 2 w w.heap.size A L) :
    Calls Tryz.prog 24 #[.slice A L.length c] w (MayEnd (RgtC L) w) := by
  have HA := hidd hA
  have C := hidd (fun a b W => refMay_any a b W)
  obtain ⟨P, hP⟩ : ∃ P : Prop, RgtC L = P := ⟨_, rfl⟩
  rw [hP]
  have HP := hidd hP
  clear hA hP
  have CN := hidd (fun hm W hW => normal_any A L c hL hm W hW)
  by_cases hn : 1 ≤ L.length ∧ L.length ≤ 32
  case neg =>
    have hnp : ¬ P := fun h => hn (HP.out ▸ h : RgtC L).1
    have HNP := hidd hnp
    clear hnp
    by_cases h1 : L.length < 1
    · have h1' : (L.length : Int) < 1 := by omega
      clear hn
      go_enter Tryz.func24, Tryz.ntmps24
      go_wp2_with fail
      go_ret
      exact ⟨false, rfl, ⟨fun h => absurd h Bool.false_ne_true, fun h => absurd h HNP.out⟩, by (repeat' (first | (with_reducible exact Below.refl _ _) | (with_reducible assumption) | (with_reducible apply Below.setCell) | (with_reducible apply Below.alloc) | (with_reducible apply Below.drew) | (with_reducible apply below_drewN) | (with_reducible refine Below.trans ?_ (Below.mono (by assumption) ?_)) | omega | (simp; done) | (simp; omega)))⟩
    · have h1' : ¬ (L.length : Int) < 1 := by omega
      have h2' : (32 : Int) < (L.length : Int) := by omega
      clear hn
      go_enter Tryz.func24, Tryz.ntmps24
      go_wp2_with fail
      go_ret
      exact ⟨false, rfl, ⟨fun h => absurd h Bool.false_ne_true, fun h => absurd h HNP.out⟩, by (repeat' (first | (with_reducible exact Below.refl _ _) | (with_reducible assumption) | (with_reducible apply Below.setCell) | (with_reducible apply Below.alloc) | (with_reducible apply Below.drew) | (with_reducible apply below_drewN) | (with_reducible refine Below.trans ?_ (Below.mono (by assumption) ?_)) | omega | (simp; done) | (simp; omega)))⟩
  have h1' : ¬ (L.length : Int) < 1 := by omega
  have h2' : ¬ (32 : Int) < (L.length : Int) := by omega
  go_enter Tryz.func24, Tryz.ntmps24
  go_wp2_with fail
  go_loopg [3] (L.length + 2) (fun g s3 wr => ∃ i : Nat, i ≤ L.length ∧ i + g = L.length + 2 ∧ s3 = .int .i64 (i : Int) ∧ (∀ j, j < i → mayB (SM.av L j, SM.sv L j) = true) ∧ Below w.heap.size w wr)
  case atStart => exact ⟨0, by omega, by omega, rfl, fun j h => absurd h (by omega), Below.refl _ _⟩
  case round =>
    obtain ⟨i, hi1, hg, rfl, hs, hB⟩ := hrel
    have HG := hidd hg
    have HS := hidd hs
    have HB := hidd hB
    clear hg hs hB
    by_cases hin : i < L.length
    · have hin2 : (i : Int) < (L.length : Int) := by omega
      have hi0 : (0 : Int) ≤ (i : Int) := by omega
      obtain ⟨ad, rfl, ha, x0, x1⟩ := (HA.out.below HB.out).send i hin
      rw [(av_at hin).1] at x0
      rw [(av_at hin).2] at x1
      have hno : mayB (SM.av L i, SM.sv L i) = false → ¬ P := fun h hh => by
        rw [← HP.out] at hh
        have := hh.2.1 i hin
        rw [h] at this
        exact absurd this (by decide)
      have HNO := hidd hno
      have hst : mayB (SM.av L i, SM.sv L i) = true → ∀ k, k < i + 1 → mayB (SM.av L k, SM.sv L k) = true := fun h k k1 => by
        by_cases hk : k = i
        · subst hk; exact h
        · exact HS.out k (by omega)
      have HST := hidd hst
      clear hst
      have hBB := HB.out
      have hBs := hBB.size
      have ci := hidd (C.out (SM.av L i) (SM.sv L i))
      clear hno
      generalize SM.av L i = a0 at *
      generalize SM.sv L i = a1 at *
      obtain ⟨M, hM⟩ : ∃ M, mayB (a0, a1) = M := ⟨_, rfl⟩
      have HM := hidd hM
      rw [hM] at ci
      clear hM
      cases M
      · go_wp2_with fail
        refine (ci.out _).mono ?_
        rintro e w2 ⟨rfl, hb2⟩
        go_wp2_with fail
        go_ret
        have hnn := HNO.out HM.out
        exact ⟨false, rfl, ⟨fun h => absurd h Bool.false_ne_true, fun h => absurd h hnn⟩, by (repeat' (first | (with_reducible exact Below.refl _ _) | (with_reducible assumption) | (with_reducible apply Below.setCell) | (with_reducible apply Below.alloc) | (with_reducible apply Below.drew) | (with_reducible apply below_drewN) | (with_reducible refine Below.trans ?_ (Below.mono (by assumption) ?_)) | omega | (simp; done) | (simp; omega)))⟩
      · go_wp2_with fail
        refine (ci.out _).mono ?_
        rintro e w2 ⟨rfl, hb2⟩
        go_wp2_with fail
        have hg := HG.out
        go_roundg (gk - 1)
        case measure => omega
        case rel => exact ⟨i + 1, by omega, by omega, by go_num, HST.out HM.out, by (repeat' (first | (with_reducible exact Below.refl _ _) | (with_reducible assumption) | (with_reducible apply Below.setCell) | (with_reducible apply Below.alloc) | (with_reducible apply Below.drew) | (with_reducible apply below_drewN) | (with_reducible refine Below.trans ?_ (Below.mono (by assumption) ?_)) | omega | (simp; done) | (simp; omega)))⟩
    · have hin2 : ¬ (i : Int) < (L.length : Int) := by omega
      have hall : MayAll L := fun j h2 => HS.out j (by omega)
      have HALL := hidd hall
      have hk := HA.out.below HB.out
      have ci := hidd (CN.out hall.all)
      have HN := hidd hn
      have HK := hidd hk
      clear hall hk hn
      go_wp2_with fail
      refine (ci.out _ (by first | exact HK.out | exact HK.out.below (Below.drewN ..))).mono ?_
      rintro e w2 ⟨R, rfl, hR, hb2⟩
      have HR := hidd hR
      clear hR
      have hBB := HB.out
      have hBs := hBB.size
      go_wp2_with fail
      go_ret
      exact ⟨R, rfl, HR.out.trans (HP.out ▸ ⟨fun h => ⟨HN.out, HALL.out, h⟩, fun h => h.2.2⟩), by (repeat' (first | (with_reducible exact Below.refl _ _) | (with_reducible assumption) | (with_reducible apply Below.setCell) | (with_reducible apply Below.alloc) | (with_reducible apply Below.drew) | (with_reducible apply below_drewN) | (with_reducible refine Below.trans ?_ (Below.mono (by assumption) ?_)) | omega | (simp; done) | (simp; omega)))⟩
end Go.Proofs.YtokcalmmmfakcaaGreat.Zp

namespace Go.Proofs.YtokcalmmmfakcaaGreat.Zp
set_option linter.unusedVariables false
open Go.RowKit Go.Proofs.YtokcalmmmfakcaaGreat.Zp.RowK

def IdxEnd (L : List (Int × Int)) (w : World) (e : Ending) (w' : World) : Prop := ∃ n : Int, e = .returned (.int .i64 n) ∧ (-1 ≤ n ∧ n ≤ 1000000) ∧ (0 ≤ n ↔ ¬ MayAll L) ∧ Below w.heap.size w w'
theorem idxEnd_of {L : List (Int × Int)} {w : World} (n : Int) (w' : World) (h1 : -1 ≤ n) (h2 : n ≤ 1000000) (h3 : 0 ≤ n ↔ ¬ MayAll L) (hb : Below w.heap.size w w') : IdxEnd L w (.returned (.int .i64 n)) w' := ⟨n, rfl, ⟨h1, h2⟩, h3, hb⟩

set_option maxHeartbeats 2000000 in
theorem idxC_any (A : Option Addr) (L : List (Int × Int)) (c : Nat) (hL : L.length ≤ 1000000) (w : World) (hA : Lie sendV 2 w w.heap.size A L) :
    Calls Tryz.prog 76 #[.slice A L.length c, .func (.func 123) #[] #[]] w (IdxEnd L w) := by
  have HA := hidd hA
  have C := hidd (fun a b W => isNoLine_any a b W)
  obtain ⟨P, hP⟩ : ∃ P : Prop, MayAll L = P := ⟨_, rfl⟩
  have HP := hidd hP
  have HID := hidd (idxEnd_of (L := L) (w := w))
  clear hA hP
  go_enter Tryz.func76, Tryz.ntmps76
  go_wp2_with fail
  go_loopg [8] (L.length + 2) (fun g s8 wr => ∃ i : Nat, i ≤ L.length ∧ i + g = L.length + 2 ∧ s8 = .int .i64 (i : Int) ∧ (∀ j, j < i → mayB (SM.av L j, SM.sv L j) = true) ∧ Below w.heap.size w wr)
  case atStart => exact ⟨0, by omega, by omega, rfl, fun j h => absurd h (by omega), Below.refl _ _⟩
  case round =>
    obtain ⟨i, hi1, hg, rfl, hs, hB⟩ := hrel
    have HG := hidd hg
    have HS := hidd hs
    have HB := hidd hB
    clear hg hs hB
    by_cases hin : i < L.length
    · have hin2 : (i : Int) < (L.length : Int) := by omega
      have hi0 : (0 : Int) ≤ (i : Int) := by omega
      obtain ⟨ad, rfl, ha, x0, x1⟩ := (HA.out.below HB.out).send i hin
      rw [(av_at hin).1] at x0
      rw [(av_at hin).2] at x1
      have hno : mayB (SM.av L i, SM.sv L i) = false → ¬ MayAll L := fun h hh => by
        have := hh i hin
        rw [h] at this
        exact absurd this (by decide)
      have HNO := hidd hno
      have hst : mayB (SM.av L i, SM.sv L i) = true → ∀ k, k < i + 1 → mayB (SM.av L k, SM.sv L k) = true := fun h k k1 => by
        by_cases hk : k = i
        · subst hk; exact h
        · exact HS.out k (by omega)
      have HST := hidd hst
      clear hst
      have hBB := HB.out
      have hBs := hBB.size
      have ci := hidd (C.out (SM.av L i) (SM.sv L i))
      clear hno
      generalize SM.av L i = a0 at *
      generalize SM.sv L i = a1 at *
      obtain ⟨M, hM⟩ : ∃ M, mayB (a0, a1) = M := ⟨_, rfl⟩
      have HM := hidd hM
      rw [hM] at ci
      clear hM
      cases M
      · go_wp2_with fail
        refine (ci.out _).mono ?_
        rintro e w2 ⟨rfl, hb2⟩
        go_wp2_with fail
        go_ret
        exact HID.out _ _ (by omega) (by omega) ⟨fun _ => HNO.out HM.out, fun _ => by omega⟩ (by (repeat' (first | (with_reducible exact Below.refl _ _) | (with_reducible assumption) | (with_reducible apply Below.setCell) | (with_reducible apply Below.alloc) | (with_reducible apply Below.drew) | (with_reducible apply below_drewN) | (with_reducible refine Below.trans ?_ (Below.mono (by assumption) ?_)) | omega | (simp; done) | (simp; omega))))
      · go_wp2_with fail
        refine (ci.out _).mono ?_
        rintro e w2 ⟨rfl, hb2⟩
        go_wp2_with fail
        have hg := HG.out
        go_roundg (gk - 1)
        case measure => omega
        case rel => exact ⟨i + 1, by omega, by omega, by go_num, HST.out HM.out, by (repeat' (first | (with_reducible exact Below.refl _ _) | (with_reducible assumption) | (with_reducible apply Below.setCell) | (with_reducible apply Below.alloc) | (with_reducible apply Below.drew) | (with_reducible apply below_drewN) | (with_reducible refine Below.trans ?_ (Below.mono (by assumption) ?_)) | omega | (simp; done) | (simp; omega)))⟩
    · have hall : MayAll L := fun j h2 => HS.out j (by omega)
      have HALL := hidd hall
      have hin2 : ¬ (i : Int) < (L.length : Int) := by omega
      clear hall
      go_wp2_with fail
      go_ret
      exact HID.out _ _ (by omega) (by omega) ⟨fun h => absurd h (by omega), fun h => absurd HALL.out h⟩ HB.out
theorem conC_any (A : Option Addr) (L : List (Int × Int)) (c : Nat) (hL : L.length ≤ 1000000) (w : World) (hA : Lie sendV 2 w w.heap.size A L) :
    Calls Tryz.prog 122 #[.slice A L.length c, .func (.func 123) #[] #[]] w (MayEnd (¬ MayAll L) w) := by
  have ci := hidd (idxC_any A L c hL w hA)
  clear hA
  unfold MayEnd
  go_enter Tryz.func122, Tryz.ntmps122
  go_wp2_with fail
  refine ci.out.mono ?_
  rintro e w1 ⟨n, rfl, h1, h2, hb⟩
  have H2 := hidd h2
  have HB := hidd hb
  clear h2 hb
  by_cases h0 : 0 ≤ n
  · go_wp2_with fail
    go_ret
    exact ⟨true, by simp, ⟨fun _ => H2.out.1 h0, fun _ => rfl⟩, HB.out⟩
  · go_wp2_with fail
    go_ret
    exact ⟨false, by simp; omega, ⟨fun h => absurd h Bool.false_ne_true, fun h => absurd (H2.out.2 h) (by omega)⟩, HB.out⟩
end Go.Proofs.YtokcalmmmfakcaaGreat.Zp

namespace Go.Proofs.YtokcalmmmfakcaaGreat.Zp
set_option linter.unusedVariables false
open Go.RowKit Go.Proofs.YtokcalmmmfakcaaGreat.Zp.RowK

theorem allLines_one (v : Value) (L : List (Int × Int)) : allLines [(v, L)] = L := by simp [allLines]
theorem curves_one {w : World} {A : Option Addr} {c : Nat} {L : List (Int × Int)} (h : Lie sendV 2 w w.heap.size A L) (t : TypeId) :
    Curves (w.alloc (.cells #[.slice A L.length c] t)) (w.alloc (.cells #[.slice A L.length c] t)).heap.size (some ⟨w.heap.size, 0, none⟩) [(.slice A L.length c, L)] := by
  have hb := below_new (Below.refl w.heap.size w) (.cells #[.slice A L.length c] t)
  refine ⟨fun _ => ⟨_, rfl, by simp, fun i x hx j v hv => ?_⟩, fun x hx => ?_⟩
  · match i, hx with
    | 0, hx =>
      have : (Value.slice A L.length c, L) = x := by simpa using hx
      subst this
      match j, hv with
      | 0, hv =>
        have : Value.slice A L.length c = v := by simpa [curV] using hv
        subst this
        simp [go_sem, Addr.add]
  · have : x = (Value.slice A L.length c, L) := by simpa using hx
    subst this
    exact ⟨A, c, rfl, (h.keep hb).more (by simp)⟩
theorem MayAll.ok {L : List (Int × Int)} (h : MayAll L) : okL L := fun x hx => by
  obtain ⟨i, hi, rfl⟩ := List.mem_iff_getElem.1 hx
  have := mayB_iff (h i hi)
  rw [(av_at hi).1, (av_at hi).2]
  simp only at this
  omega
theorem rgt_low {L : List (Int × Int)} (h0 : 1 ≤ L.length) (h1 : L.length ≤ 32) (hm : MayAll L) : CM.low L = L ↔ RgtC L := by
  have hne : L ≠ [] := fun e => by subst e; simp at h0
  constructor
  · exact fun h => ⟨⟨h0, h1⟩, hm, CM.low_iff.1 ⟨h, hne⟩⟩
  · exact fun h => CM.low_self h.2.2
set_option maxHeartbeats 2000000 in
theorem isNone_any (A : Option Addr) (L : List (Int × Int)) (c : Nat) (hL : L.length ≤ 1000000) (w : World) (hA : Lie sendV 2 w w.heap.size A L) :
    Calls Tryz.prog 99 #[.slice A L.length c] w (MayEnd (¬ RgtC L) w) := by
  unfold MayEnd
  obtain ⟨P, hP⟩ : ∃ P : Prop, RgtC L = P := ⟨_, rfl⟩
  rw [hP]
  have HP := hidd hP
  clear hP
  by_cases h0 : L.length = 0
  · have hn : ¬ P := fun h => by have := (HP.out ▸ h : RgtC L).1; omega
    have HN := hidd hn
    rw [h0]
    clear hn h0 HP hA
    go_enter Tryz.func99, Tryz.ntmps99
    go_wp2_with fail
    go_ret
    exact ⟨true, by simp, ⟨fun _ => HN.out, fun _ => rfl⟩, Below.refl _ _⟩
  by_cases h1 : 32 < L.length
  · have hn : ¬ P := fun h => by have := (HP.out ▸ h : RgtC L).1; omega
    have HN := hidd hn
    have h2 : ((L.length : Int) == 0) = false := beq_eq_false_iff_ne.2 (by omega)
    have h3 : (32 : Int) < (L.length : Int) := by omega
    clear hn h0 HP hA
    go_enter Tryz.func99, Tryz.ntmps99
    go_wp2_with fail
    go_ret
    exact ⟨true, by first | rfl | simp, ⟨fun _ => HN.out, fun _ => rfl⟩, Below.refl _ _⟩
  have h2 : ((L.length : Int) == 0) = false := beq_eq_false_iff_ne.2 (by omega)
  have h3 : ¬ (32 : Int) < (L.length : Int) := by omega
  have HA := hidd hA
  have cc := hidd (conC_any A L c hL w hA)
  have HL0 : Hid (1 ≤ L.length ∧ L.length ≤ 32) := hidd ⟨by omega, by omega⟩
  have cl := hidd (fun (hm : MayAll L) (W : World) (hW : Lie sendV 2 W W.heap.size A L) => lowest_any (some ⟨W.heap.size, 0, none⟩) 1 [(.slice A L.length c, L)] (by simp) (by simp; omega) (by rw [allLines_one]; omega) (by rw [allLines_one]; exact fun e => by rw [e] at h0; simp at h0) (by rw [allLines_one]; exact hm.ok) _ (curves_one hW 23))
  clear hA h0 h1
  go_enter Tryz.func99, Tryz.ntmps99
  go_wp2_with fail
  refine cc.out.mono ?_
  rintro e w1 ⟨R, rfl, hR, hb1⟩
  have HR := hidd hR
  have HB1 := hidd hb1
  clear hR hb1
  cases R
  · have hm : MayAll L := Classical.not_not.1 (fun h => absurd (HR.out.2 h) Bool.false_ne_true)
    have HM := hidd hm
    have ck := hidd (cl.out hm w1 (HA.out.below HB1.out))
    rw [allLines_one] at ck
    clear cl hm
    go_wp2_with fail
    refine ck.out.mono ?_
    rintro e w2 ⟨v, rfl, hO, hb2⟩
    obtain ⟨A2, c2, rfl, _, _, hl2⟩ := hO.lie sendV_len
    have hb3 := below_step (below_new HB1.out (.cells #[.slice A L.length c] 23)) hb2
    have HB3 := hidd hb3
    have ce := hidd (equal_any A2 A (CM.low L) L c2 c (Nat.le_trans (CM.low_len L) hL) hL w2 hl2 (HA.out.below hb3))
    clear hO hl2 hb2 hb3
    go_wp2_with fail
    refine ce.out.mono ?_
    rintro e w3 ⟨rfl, q, rfl⟩
    obtain ⟨T, hT⟩ : ∃ T, decide (CM.low L = L) = T := ⟨_, rfl⟩
    rw [hT]
    have HT := hidd hT
    clear hT
    go_wp2_with fail
    go_ret
    refine ⟨!T, by first | rfl | simp, ?_, by have := HB3.out; (repeat' (first | (with_reducible exact Below.refl _ _) | (with_reducible assumption) | (with_reducible apply Below.setCell) | (with_reducible apply Below.alloc) | (with_reducible apply Below.drew) | (with_reducible apply below_drewN) | (with_reducible refine Below.trans ?_ (Below.mono (by assumption) ?_)) | omega | (simp; done) | (simp; omega)))⟩
    have hrl := rgt_low HL0.out.1 HL0.out.2 HM.out
    rw [HP.out] at hrl
    rw [← HT.out]
    by_cases hlow : CM.low L = L
    · simp [hlow, hrl.1 hlow]
    · have : ¬ P := fun h => hlow (hrl.2 h)
      simp [hlow, this]
  · have hnm : ¬ MayAll L := HR.out.1 rfl
    have hn : ¬ P := fun h => hnm (HP.out ▸ h : RgtC L).2.1
    have HN := hidd hn
    clear hnm hn cl
    go_wp2_with fail
    go_ret
    exact ⟨true, by first | rfl | simp, ⟨fun _ => HN.out, fun _ => rfl⟩, HB1.out⟩
/-- ErrArg, or OK. -/
def ChkEnd (P : Prop) (w : World) (e : Ending) (w' : World) : Prop := ∃ R : Bool, e = .returned (.int .i64 (if R then 0 else 2)) ∧ (R = true ↔ P) ∧ Below w.heap.size w w'
theorem curveCheck_any (A : Option Addr) (L : List (Int × Int)) (c : Nat) (hL : L.length ≤ 1000000) (w : World) (hA : Lie sendV 2 w w.heap.size A L) :
    Calls Tryz.prog 72 #[.slice A L.length c] w (ChkEnd (RgtC L) w) := by
  have cn := hidd (isNone_any A L c hL w hA)
  unfold ChkEnd
  clear hA
  go_enter Tryz.func72, Tryz.ntmps72
  go_wp2_with fail
  refine cn.out.mono ?_
  rintro e w1 ⟨R, rfl, hR, hb1⟩
  have HR := hidd hR
  clear hR
  cases R
  · go_wp2_with fail
    go_ret
    exact ⟨true, rfl, ⟨fun _ => Classical.not_not.1 (fun h => absurd (HR.out.2 h) Bool.false_ne_true), fun _ => rfl⟩, hb1⟩
  · go_wp2_with fail
    go_ret
    exact ⟨false, rfl, ⟨fun h => absurd h Bool.false_ne_true, fun h => absurd h (HR.out.1 (by first | rfl | trivial))⟩, hb1⟩
end Go.Proofs.YtokcalmmmfakcaaGreat.Zp

namespace Go.Proofs.YtokcalmmmfakcaaGreat.Zp
namespace CM
set_option linter.unusedVariables false

theorem av_app {R : List (Int × Int)} {x : Int × Int} {i : Nat} (h : i < R.length) : SM.av (R ++ [x]) i = SM.av R i ∧ SM.sv (R ++ [x]) i = SM.sv R i := by
  unfold SM.av SM.sv
  simp [List.getElem?_append_left h]
end CM
end Go.Proofs.YtokcalmmmfakcaaGreat.Zp

namespace Go.Proofs.YtokcalmmmfakcaaGreat.Zp
set_option linter.unusedVariables false
open Go.RowKit Go.Proofs.YtokcalmmmfakcaaGreat.Zp.RowK

/-- the lines of a list that lies there. -/
theorem Lie.two {w : World} {B : Nat} {ad : Addr} {L : List (Int × Int)} (h : Lie sendV 2 w B (some ad) L) (h0 : 0 < L.length) : ad.block < B ∧ (w.cell? ad = some (.int .i64 (SM.av L 0)) ∧ w.cell? ⟨ad.block, ad.off + 1, none⟩ = some (.int .i64 (SM.sv L 0))) ∧
    (1 < L.length → w.cell? ⟨ad.block, ad.off + 2, none⟩ = some (.int .i64 (SM.av L 1)) ∧ w.cell? ⟨ad.block, ad.off + 2 + 1, none⟩ = some (.int .i64 (SM.sv L 1))) := by
  obtain ⟨ad', e, hB, x0, x1⟩ := h.send 0 h0
  obtain rfl : ad = ad' := by injection e
  have e0 : ad.add (0 * 2) = ad := by simp [Addr.add]
  rw [e0, (av_at h0).1] at x0
  rw [e0, (av_at h0).2] at x1
  refine ⟨hB, ⟨x0, x1⟩, fun h1 => ?_⟩
  obtain ⟨ad', e, hB, y0, y1⟩ := h.send 1 h1
  obtain rfl : ad = ad' := by injection e
  have e1 : ad.add (1 * 2) = ⟨ad.block, ad.off + 2, none⟩ := rfl
  rw [e1, (av_at h1).1] at y0
  rw [e1, (av_at h1).2] at y1
  exact ⟨y0, y1⟩
/-- a new box of two, behind a draw and a call. -/
theorem GB.new (w : World) : ∀ W', Below (w.alloc (.cells #[.int .i64 0, .int .i64 0] 150)).drew.heap.size (w.alloc (.cells #[.int .i64 0, .int .i64 0] 150)).drew W' → W'.cell? ⟨w.heap.size, 0, none⟩ = some (.int .i64 0) ∧ W'.cell? ⟨w.heap.size, 1, none⟩ = some (.int .i64 0) ∧ W'.frozen? ⟨w.heap.size, 0, none⟩ = false ∧ W'.frozen? ⟨w.heap.size, 1, none⟩ = false := fun W' hb => by
  have h0 := hb.cell (p := ⟨w.heap.size, 0, none⟩) (by simp [go_sem])
  have h1 := hb.cell (p := ⟨w.heap.size, 1, none⟩) (by simp [go_sem])
  have f0 := hb.frozen (p := ⟨w.heap.size, 0, none⟩) (by simp [go_sem])
  have f1 := hb.frozen (p := ⟨w.heap.size, 1, none⟩) (by simp [go_sem])
  exact ⟨h0.trans (by simp [go_sem]), h1.trans (by simp [go_sem]), f0.trans (by simp [go_sem]), f1.trans (by simp [go_sem])⟩
end Go.Proofs.YtokcalmmmfakcaaGreat.Zp

namespace Go.Proofs.YtokcalmmmfakcaaGreat.Zp
set_option linter.unusedVariables false
open Go.RowKit Go.Proofs.YtokcalmmmfakcaaGreat.Zp.RowK

end Go.Proofs.YtokcalmmmfakcaaGreat.Zp

namespace Go.Proofs.YtokcalmmmfakcaaGreat.Zp
set_option linter.unusedVariables false
open Go.RowKit Go.Proofs.YtokcalmmmfakcaaGreat.Zp.RowK

end Go.Proofs.YtokcalmmmfakcaaGreat.Zp

namespace Go.Proofs.YtokcalmmmfakcaaGreat.Zp
set_option linter.unusedVariables false
open Go.RowKit Go.Proofs.YtokcalmmmfakcaaGreat.Zp.RowK

end Go.Proofs.YtokcalmmmfakcaaGreat.Zp

namespace Go.Proofs.YtokcalmmmfakcaaGreat.Zp
set_option linter.unusedVariables false
open Go.RowKit Go.Proofs.YtokcalmmmfakcaaGreat.Zp.RowK

end Go.Proofs.YtokcalmmmfakcaaGreat.Zp

namespace Go.Proofs.YtokcalmmmfakcaaGreat.Zp
set_option linter.unusedVariables false
open Go.RowKit Go.Proofs.YtokcalmmmfakcaaGreat.Zp.RowK

end Go.Proofs.YtokcalmmmfakcaaGreat.Zp

namespace Go.Proofs.YtokcalmmmfakcaaGreat.Zp
set_option linter.unusedVariables false
open Go.RowKit Go.Proofs.YtokcalmmmfakcaaGreat.Zp.RowK

end Go.Proofs.YtokcalmmmfakcaaGreat.Zp

namespace Go.Proofs.YtokcalmmmfakcaaGreat.Zp
set_option linter.unusedVariables false
open Go.RowKit Go.Proofs.YtokcalmmmfakcaaGreat.Zp.RowK

end Go.Proofs.YtokcalmmmfakcaaGreat.Zp

namespace Go.Proofs.YtokcalmmmfakcaaGreat.Zp
set_option linter.unusedVariables false
open Go.RowKit Go.Proofs.YtokcalmmmfakcaaGreat.Zp.RowK

end Go.Proofs.YtokcalmmmfakcaaGreat.Zp

namespace Go.Proofs.YtokcalmmmfakcaaGreat.Zp
set_option linter.unusedVariables false
open Go.RowKit Go.Proofs.YtokcalmmmfakcaaGreat.Zp.RowK

end Go.Proofs.YtokcalmmmfakcaaGreat.Zp

namespace Go.Proofs.YtokcalmmmfakcaaGreat.Zp
set_option linter.unusedVariables false
open Go.RowKit Go.Proofs.YtokcalmmmfakcaaGreat.Zp.RowK

end Go.Proofs.YtokcalmmmfakcaaGreat.Zp

namespace Go.Proofs.YtokcalmmmfakcaaGreat.Zp
set_option linter.unusedVariables false
open Go.RowKit Go.Proofs.YtokcalmmmfakcaaGreat.Zp.RowK

end Go.Proofs.YtokcalmmmfakcaaGreat.Zp

namespace Go.Proofs.YtokcalmmmfakcaaGreat.Zp
set_option linter.unusedVariables false
open Go.RowKit Go.Proofs.YtokcalmmmfakcaaGreat.Zp.RowK

def UpR (a b : Int × Int) : Prop := a.1 < b.1 ∨ a.1 = b.1 ∧ a.2 ≤ b.2
theorem UpR.trans {a b c : Int × Int} (h : UpR a b) (g : UpR b c) : UpR a c := by unfold UpR at *; omega
end Go.Proofs.YtokcalmmmfakcaaGreat.Zp

namespace Go.Proofs.YtokcalmmmfakcaaGreat.Zp
namespace CM
set_option linter.unusedVariables false

end CM
end Go.Proofs.YtokcalmmmfakcaaGreat.Zp

namespace Go.Proofs.YtokcalmmmfakcaaGreat.Zp
set_option linter.unusedVariables false
open Go.RowKit Go.Proofs.YtokcalmmmfakcaaGreat.Zp.RowK

end Go.Proofs.YtokcalmmmfakcaaGreat.Zp

namespace Go.Proofs.YtokcalmmmfakcaaGreat.Zp
set_option linter.unusedVariables false
open Go.RowKit Go.Proofs.YtokcalmmmfakcaaGreat.Zp.RowK

end Go.Proofs.YtokcalmmmfakcaaGreat.Zp

namespace Go.Proofs.YtokcalmmmfakcaaGreat.Zp
open Go
end Go.Proofs.YtokcalmmmfakcaaGreat.Zp

namespace Go.Proofs.YtokcalmmmfakcaaGreat.Zp
set_option linter.unusedVariables false
open Go.RowKit Go.Proofs.YtokcalmmmfakcaaGreat.Zp.RowK

end Go.Proofs.YtokcalmmmfakcaaGreat.Zp

-- HOLDS AllN AllN.take Box Box.new Box.step ChkEnd Crv Curves Curves.at_ Curves.keep Curves.more GB.new Grew Grew.alloc Grew.drew Grew.drewN Grew.refl HasSpec HasSpec.drew HasSpec.new HasSpec.step HeldC HeldC.keep IdxEnd K Lie Lie.below Lie.keep Lie.more Lie.nil Lie.send Lie.spec Lie.two LineBox LineBox.kept2 LineBox.new LineBox.step MayAll MayAll.all MayAll.ok MayEnd MustsAt MustsEnd Nrm NrmAt NrmEnd OwnL OwnL.alloc OwnL.base OwnL.below OwnL.drew OwnL.form OwnL.holds OwnL.kept OwnL.lie OwnL.lt OwnL.nil OwnL.snoc OwnL.sorted OwnL.take RgtC S SortsLines Spc UpR UpR.trans add_of_add add_zero_off against_any allLines allLines_one allLines_prefix allLines_take allMay append_empty av av_app av_at av_last av_take bcell below_new below_step bendOf_any block_of_add cell_two_new check_any cmpV compare_any conC_any curV curveCheck_any curves_one equal_any flat_row grownBy_sortedK heap_sortedK hidd holds_own hull hull_len hull_mem hull_next hull_nrm hull_ok hull_self hull_short hull_snoc hull_take idxC_any idxEnd_of inOrder_any isNaN_any isNoLine_any isNone_any joined1_in joined_in joined_stops keep keep_all keep_len keep_mem keep_nrm le le_total le_trans lineC lineC_le lineC_lt lineInfo lineO line_sorted low low_iff low_len low_nrm low_self lowest1_grew lowest1_lays lowest_any mayB mayB_iff more must0_any must1_any must2_any must3_any must4_any must5_any must6_any must7_any mustB mustF must_any must_enters musts_any normal_any now nrm_app nrm_next nrm_take nrm_up okL okL.at_ orV or_any part_lt part_prefix prod_bd refMay_any ret_bool rgt_low right3_any rightB rightB_iff rightB_musts rowOf row_at row_len row_snoc row_take run_append_some sendV sendV_len sendV_one sortL sortL_perm sortL_up sortsLines spAt spAt_get specV sv take_len take_one take_putK wpList_append_some wp_append_some wp_scope_fwd
