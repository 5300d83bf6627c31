/- Texts that the claim hangs on, in one. -/
import Derived.Test.YtpgaklfgbioocaaRows
import Derived.WalkKit
import Derived.WalkSpells
import Derived.WalkLawsBesides
import Derived.BigQuiet
import Derived.Deep.QuietTactic
import Derived.Deep.LoopGhost
import Derived.Deep.DeepCutAuto
import Derived.Deep.RegionHeld3
import Derived.ScopeJumps
import Derived.WalkMore
import Derived.IntWalk
import Derived.ProofKit
import Derived.OpenShut
import Derived.ChangeSame
import Derived.JoinedOf
import Derived.JoinedAt
import Derived.Carry
import Derived.Deep.Slices
import Derived.Deep.Fields
import Derived.Lib.SmallJoins
import Derived.Laws.Rows
import Derived.BigRegion
import Derived.Deep.AppendLies
import Derived.RegionTactic
import Derived.RangeFuncNested
import Derived.RangeFuncBound
import Derived.RangeFuncCalls
import Derived.RangeFuncLeaves
import Derived.RangeFuncBox
import Derived.Shelf.Abstract
import Derived.Shelf.RegionOpen
import Derived.OwnWalkIn
import Derived.TacticsInMore
import Derived.LoopNIn
import Derived.LoopIn
import Derived.Shelf.SlSortCmp.InsertionK
import Derived.Sort.LotA
import Derived.Maps.AppendAt
import Derived.Test.YtpgaklfgbioocaaShelfS
namespace Go.Proofs.Ytpgaklfgbioocaa
open Go.RowKit

theorem hidd {p : Prop} (h : p) : Hid p := h
theorem bcell {W w1 : World} (hb : Below W.heap.size W w1) : (∀ b o, b < W.heap.size → w1.cell? ⟨b, o, none⟩ = W.cell? ⟨b, o, none⟩) ∧ (∀ b o, b < W.heap.size → w1.frozen? ⟨b, o, none⟩ = W.frozen? ⟨b, o, none⟩) :=
  ⟨fun b o h => hb.cell (p := ⟨b, o, none⟩) h, fun b o h => hb.frozen (p := ⟨b, o, none⟩) h⟩
theorem below_step {w a b : World} (t : Below w.heap.size w a) (h : Below a.heap.size a b) : Below w.heap.size w b := t.trans (h.mono t.size)
theorem below_new {w a : World} (t : Below w.heap.size w a) (o : Obj) : Below w.heap.size w (a.alloc o) := t.alloc t.size o
theorem ret_bool {a b : Bool} (h : a = b) : Ending.returned (.bool a) = .returned (.bool b) := by rw [h]

theorem wp_scope_fwd {P : Program} {a : Act} {w : World} {Q : Exit → Act → World → Prop} {c rest : Code} (l : Nat) (J : Act → World → Prop) (hf : findLabel c l = some rest)
    (first : c.wp P (Exit.jump l J Q) a w) (pass : ∀ a w, J a w → rest.wp P (Exit.noGoto Q) a w) : (Code.scope c).wp P Q a w :=
  wp_scope_jumps l J (fun _ _ => 0) hf first fun a w h => wp_mono (pass a w h) fun e a w hq => by
    cases e <;> first | exact hq | exact hq.elim

/-- may a spec be. -/
def rightB (p r u m l : Int) : Bool := decide (1 ≤ r ∧ r ≤ p ∧ p ≤ 1000000 ∧ 1 ≤ l ∧ l ≤ m ∧ m ≤ 2000 ∧ m ≤ u ∧ u ≤ 10000000)
theorem rightB_iff {p r u m l : Int} (h : rightB p r u m l = true) : 1 ≤ r ∧ r ≤ p ∧ p ≤ 1000000 ∧ 1 ≤ l ∧ l ≤ m ∧ m ≤ 2000 ∧ m ≤ u ∧ u ≤ 10000000 := of_decide_eq_true h
/-- the k-th of what it must. -/
def mustB (p r u m l : Int) : Nat → Bool
  | 0 => decide (1 ≤ r) | 1 => decide (r ≤ p) | 2 => decide (p ≤ 1000000) | 3 => decide (1 ≤ l) | 4 => decide (l ≤ m) | 5 => decide (m ≤ 2000) | 6 => decide (m ≤ u) | _ => decide (u ≤ 10000000)
theorem rightB_musts (p r u m l : Int) : rightB p r u m l = true ↔ ∀ k, k < 8 → mustB p r u m l k = true := by
  constructor
  · intro h k hk
    have := rightB_iff h
    match k, hk with
    | 0, _ | 1, _ | 2, _ | 3, _ | 4, _ | 5, _ | 6, _ | 7, _ => simp only [mustB, decide_eq_true_eq]; omega
  · intro h
    have h0 := h 0 (by omega)
    have h1 := h 1 (by omega)
    have h2 := h 2 (by omega)
    have h3 := h 3 (by omega)
    have h4 := h 4 (by omega)
    have h5 := h 5 (by omega)
    have h6 := h 6 (by omega)
    have h7 := h 7 (by omega)
    simp only [mustB, decide_eq_true_eq] at h0 h1 h2 h3 h4 h5 h6 h7
    exact decide_eq_true ⟨h0, h1, h2, h3, h4, h5, h6, h7⟩

end Go.Proofs.Ytpgaklfgbioocaa

namespace Go.Proofs.Ytpgaklfgbioocaa
open Go.RowKit

end Go.Proofs.Ytpgaklfgbioocaa

namespace Go.Proofs.Ytpgaklfgbioocaa
open Go.RowKit

/-- is it a tick. -/
def tickB (n : Int) : Bool := decide (0 ≤ n ∧ n ≤ 2147483647)
end Go.Proofs.Ytpgaklfgbioocaa

namespace Go.Proofs.Ytpgaklfgbioocaa
namespace SM

def tick (n : Int) : Prop := 0 ≤ n ∧ n ≤ 2147483647
/-- what is kept of a line, one sending on. -/
def more (rate kept now a s : Int) : Int := max (kept - rate * (a - now)) 0 + s
end SM
end Go.Proofs.Ytpgaklfgbioocaa

namespace Go.Proofs.Ytpgaklfgbioocaa
open Go.RowKit

theorem block_of_add (a : Addr) (n : Nat) : (a.add n).block = a.block := by unfold Addr.add; split <;> rfl
theorem add_of_add (a : Addr) (i j : Nat) : (a.add i).add j = a.add (i + j) := by
  unfold Addr.add
  by_cases hi : i = 0 <;> by_cases hj : j = 0 <;> simp [hi, hj, Nat.add_assoc]
/-- a list lies in memory below block B, each of it in 'sz' cells. -/
def Lie {α : Type} (f : α → List Value) (sz : Nat) (w : World) (B : Nat) (A : Option Addr) (l : List α) : Prop :=
  0 < l.length → ∃ ad, A = some ad ∧ ad.block < B ∧ ∀ i x, l[i]? = some x → ∀ j v, (f x)[j]? = some v → w.cell? (ad.add (i * sz + j)) = some v
theorem Lie.keep {α : Type} {f : α → List Value} {sz : Nat} {w w' : World} {B : Nat} {A : Option Addr} {l : List α} (h : Lie f sz w B A l) (hb : Below B w w') : Lie f sz w' B A l := fun hl => by
  obtain ⟨ad, e, hB, hc⟩ := h hl
  exact ⟨ad, e, hB, fun i x hx j v hv => (hb.cell (by rw [block_of_add]; exact hB)).trans (hc i x hx j v hv)⟩
theorem Lie.more {α : Type} {f : α → List Value} {sz : Nat} {w : World} {B B' : Nat} {A : Option Addr} {l : List α} (h : Lie f sz w B A l) (hb : B ≤ B') : Lie f sz w B' A l := fun hl => by
  obtain ⟨ad, e, hB, hc⟩ := h hl
  exact ⟨ad, e, Nat.lt_of_lt_of_le hB hb, hc⟩
theorem Lie.below {α : Type} {f : α → List Value} {sz : Nat} {w w' : World} {A : Option Addr} {l : List α} (h : Lie f sz w w.heap.size A l) (hb : Below w.heap.size w w') : Lie f sz w' w'.heap.size A l :=
  (h.keep hb).more hb.size
theorem Lie.nil {α : Type} {f : α → List Value} {sz : Nat} {w : World} {B : Nat} {A : Option Addr} : Lie f sz w B A [] := fun h => absurd h (by simp)
def sendV (x : Int × Int) : List Value := [.int .i64 x.1, .int .i64 x.2]
theorem Lie.send {w : World} {B : Nat} {A : Option Addr} {l : List (Int × Int)} (h : Lie sendV 2 w B A l) (i : Nat) (hi : i < l.length) :
    ∃ ad, A = some ad ∧ ad.block < B ∧ w.cell? (ad.add (i * 2)) = some (.int .i64 l[i].1) ∧ w.cell? ⟨(ad.add (i * 2)).block, (ad.add (i * 2)).off + 1, none⟩ = some (.int .i64 l[i].2) := by
  obtain ⟨ad, e, hB, hc⟩ := h (by omega)
  have hx : l[i]? = some l[i] := List.getElem?_eq_getElem hi
  refine ⟨ad, e, hB, hc i _ hx 0 _ rfl, ?_⟩
  have := hc i _ hx 1 _ rfl
  rw [← add_of_add] at this
  exact this

end Go.Proofs.Ytpgaklfgbioocaa

namespace Go.Proofs.Ytpgaklfgbioocaa
namespace RowK
open Go.ChangeShapes Go.WideShapes Go.ChangeAt Go.RowKit Go.Joins Go.Deep

theorem own : ownKnob Try.prog.godebug = none := by kernel_rfl
theorem laidOut : laidOutB Try.prog = true := by kernel_rfl
theorem i64_bounds {n : Int} (h : (Lit.int .i64 n).wf = true) : -9223372036854775808 ≤ n ∧ n ≤ 9223372036854775807 := by
  simp only [Lit.wf, Bool.and_eq_true, decide_eq_true_eq] at h
  have a : IntKind.i64.min = -9223372036854775808 := rfl
  have b : IntKind.i64.max = 9223372036854775807 := rfl
  omega
section
variable {H : Type} {enc : TypeId × Value → H} {P : Program}
theorem all_stays (hl : laidOutB P = true) {W W' : World} (hb : Below W.heap.size W W') : ∀ {ts : List TypeId} {vs : List Value} {ds : List (DataW H)} {ps : List MemPlace},
    (∀ t ∈ ts, P.readableRec t = true ∧ t < P.types.size) → DataW.TrodAll enc P W 0 (fun _ => true) true ts vs ds ps → (∀ x ∈ ps, x.block < W.heap.size) → ∀ sp : Nat → Bool, (∀ x ∈ ps, sp x.block = true) → DataW.TrodAll enc P W' 0 sp true ts vs ds ps
  | [], vs, ds, ps, _, h, _, sp, _ => by
    obtain ⟨rfl, rfl, rfl⟩ := trodAll_nil h
    exact trodAll_mk0
  | t :: ts, vs, ds, ps, hr, h, hlt, sp, hsp => by
    obtain ⟨v, vs', d, ds', p, p', rfl, rfl, rfl, h0, h1⟩ := trodAll_cons h
    refine trodAll_cons_mk (WideElems.Trod_stays hl (hr t (by simp)).1 (hr t (by simp)).2 h0 (fun x hx => hb.same (hlt x (by simp [hx]))) (fun x hx => hsp x (by simp [hx]))) ?_
    exact all_stays hl hb (fun t ht => hr t (by simp [ht])) h1 (fun x hx => hlt x (by simp [hx])) sp (fun x hx => hsp x (by simp [hx]))

theorem post_law {f : Func} {s : ChangeSpec} {apart fresh handsOn again : Bool} {W W' : World} {args : Array Value} {v : Value} {ds gs : List (DataW H)} {before pv : List MemPlace}
    (hl : laidOutB P = true) (hr : ∀ t ∈ f.params.toList, P.readableRec t = true ∧ t < P.types.size)
    (hW : DataW.Whole enc P f.params.toList s.vars apart W args.toList ds gs (before ++ pv))
    (hA : DataW.TrodAll enc P W 0 (fun _ => true) true f.params.toList args.toList ds before)
    (hs : (s.fn H (ds ++ gs)).args = ds)
    (hres : ∀ (b : Nat) (sp : Nat → Bool) (hd : Bool), DataW.TrodAll enc P W' b sp hd f.resultTypes.toList (v.resultList f.resultTypes.size) (s.fn H (ds ++ gs)).results [])
    (hvars : ∀ sp : Nat → Bool, DataW.TrodVars enc P W' sp s.vars (s.fn H (ds ++ gs)).vars pv)
    (hb : Below W.heap.size W W')
    (hok : ∀ (j : Nat) (t : TypeId) (r : Value), f.resultTypes[j]? = some t → (v.resultList f.resultTypes.size)[j]? = some r → Value.okWide P W' .any 0 t r) :
    s.post enc P f apart fresh handsOn again W args v W' := by
  have hlt : ∀ p ∈ before ++ pv, p.block < W.heap.size := fun p hp => hW.lt p hp
  have hargs : ∀ sp : Nat → Bool, (∀ p ∈ before ++ pv, sp p.block = true) → DataW.TrodAll enc P W' 0 sp true f.params.toList args.toList (s.fn H (ds ++ gs)).args before := fun sp hsp => by
    rw [hs]
    exact all_stays hl hb hr hA (fun x hx => hlt x (by simp [hx])) sp (fun x hx => hsp x (by simp [hx]))
  have hold : ∀ p ∈ before ++ pv, (fun b => decide (b < W.heap.size)) p.block = true := fun p hp => by simpa using hlt p hp
  refine ⟨ds, gs, before ++ pv, [], before, pv, hW, hres _ _ _, hargs _ hold, hvars _, World.keptBut_mono (fun p hp => ⟨hp, ?_⟩) (hb.frame (· ∈ before ++ pv)), fun _ => ?_⟩
  · rw [List.mem_append] at hp
    exact Or.inr hp
  · obtain ⟨_, _, _, _, _, hz, hn⟩ := hW
    refine ⟨hok, _, _, ([] ++ before) ++ pv, ⟨[] ++ before, pv, trodAll_append (hargs _ (fun _ _ => rfl)) (hres _ _ _), hvars _, rfl, ?_, ?_⟩, ?_⟩
    · intro b off hp
      have hin : MemPlace.cell b off ∈ before ++ pv := by simpa using hp
      rw [hb.frozen (hlt _ hin)]
      exact hz b off hin
    · intro ha
      have := hn ha
      simpa using this
    · intro p hp _
      simpa using hp
end

section
variable {H : Type} {enc : TypeId × Value → H} {P : Program} {w : World} {base : Nat} {spare : Nat → Bool} {held : Bool}
theorem open_slice_fields {t e : TypeId} {fs : Array Field} {fuel : Nat} {cs : List Value} {x : DataW H × List MemPlace} (ht : P.underlying t = some (.slice e)) (he : P.underlying e = some (.struct fs))
    (hone : oneCellFields P fs = true) (hC : P.cellsOf e = fs.size) (h : DataW.trod enc P w base spare held fuel t cs = some x) :
    cs = [.slice none 0 0] ∨
    ∃ (a : Addr) (len cap : Nat), cs = [.slice (some a) len cap] ∧ len ≤ cap ∧ cap ≤ maxLen ∧
      ∀ i, i < len → ∀ (j : Nat) (f : Field), fs[j]? = some f → ∃ (v : Value) (n : Nat) (y : DataW H × List MemPlace), w.cell? (a.add (i * fs.size + j)) = some v ∧ DataW.trod enc P w base spare held n f.type [v] = some y := by
  rcases open_slice ht h with h0 | ⟨a, len, cap, m, n, D, Pl, hcs, hb, hl, hm, hmm, hx, hi⟩
  · exact .inl h0.1
  · refine .inr ⟨a, len, cap, hcs, hl, hm, fun i hil j f hj => ?_⟩
    have him : i < m := by rw [hmm]; split <;> omega
    obtain ⟨cs', hc, ht'⟩ := hi i him
    rw [hC] at hc
    obtain ⟨ys, n', hn', hy, hlen, hyl, hf⟩ := DataW.trod_struct he ht'
    obtain ⟨_, hcl, hat⟩ := World.cells?_some hc
    obtain ⟨ho, hk⟩ := hone_of hone j f hj
    have hjl : j < fs.size := (Array.getElem?_eq_some_iff.1 hj).1
    have hcell := hat j hjl
    have hv : cs'[j]? = some (cs'[j]'(by omega)) := List.getElem?_eq_getElem (by omega)
    have h1 := hf j f hj
    rw [ho, hk] at h1
    have hone' : (cs'.drop j).take 1 = [cs'[j]'(by omega)] := by
      rw [List.drop_eq_getElem_cons (by omega)]
      rfl
    rw [hone'] at h1
    have hys : ys[j]? = some (ys[j]'(by omega)) := List.getElem?_eq_getElem (by omega)
    refine ⟨_, n', _, ?_, h1.trans hys⟩
    rw [← Go.Deep.add_add, hcell, hv]
theorem list_of {α : Type} {Q : Nat → α → Prop} : ∀ {n : Nat}, (∀ i, i < n → ∃ x, Q i x) → ∃ L : List α, L.length = n ∧ ∀ i x, L[i]? = some x → Q i x
  | 0, _ => ⟨[], rfl, fun i x h => by simp at h⟩
  | n + 1, h => by
    obtain ⟨L, hL, hQ⟩ := list_of (n := n) (fun i hi => h i (by omega))
    obtain ⟨x, hx⟩ := h n (by omega)
    refine ⟨L ++ [x], by simp [hL], fun i y hy => ?_⟩
    rw [List.getElem?_append] at hy
    split at hy
    · exact hQ i y hy
    · have : i = n := by
        have := (List.getElem?_eq_some_iff.1 hy).1
        simp at this
        omega
      subst this
      rw [hL] at hy
      simp at hy
      exact hy ▸ hx
end
abbrev Spc := Int × Int × Int × Int × Int
def specV (x : Spc) : List Value := [.int .i64 x.1, .int .i64 x.2.1, .int .i64 x.2.2.1, .int .i64 x.2.2.2.1, .int .i64 x.2.2.2.2]
section
variable {H : Type} {enc : TypeId × Value → H} {w : World} {base : Nat} {spare : Nat → Bool} {held : Bool} {fuel : Nat}
end
section
variable {H : Type} {enc : TypeId × Value → H} {P : Program} {w : World} {base : Nat} {spare : Nat → Bool} {held : Bool}
end
end RowK
end Go.Proofs.Ytpgaklfgbioocaa

namespace Go.Proofs.Ytpgaklfgbioocaa
namespace RowK
open Go.ChangeShapes Go.WideShapes Go.ChangeAt Go.RowKit Go.Joins Go.Deep

section
variable {H : Type} {enc : TypeId × Value → H} {w : World} {base : Nat} {spare : Nat → Bool} {held : Bool}
theorem cellsLine : Try.prog.cellsOf 44 = 2 := by kernel_rfl
theorem open_curve {fuel : Nat} {cs : List Value} {x : DataW H × List MemPlace} (h : DataW.trod enc Try.prog w base spare held fuel 25 cs = some x) :
    ∃ (A : Option Addr) (L : List (Int × Int)) (c : Nat), cs = [.slice A L.length c] ∧ L.length ≤ c ∧ c ≤ maxLen ∧ Lie sendV 2 w w.heap.size A L := by
  rcases open_slice_fields Try.underlying25 Try.underlying44 (by kernel_rfl) cellsLine h with rfl | ⟨a, len, cap, rfl, hl, hm, hc⟩
  · exact ⟨none, [], 0, rfl, by simp, by simp [maxLen], Lie.nil⟩
  · obtain ⟨L, rfl, hL⟩ := list_of (α := Int × Int) (Q := fun i x => w.cell? (a.add (i * 2 + 0)) = some (.int .i64 x.1) ∧ w.cell? (a.add (i * 2 + 1)) = some (.int .i64 x.2)) (n := len) (fun i hi => by
      obtain ⟨v0, n0, y0, hv0, ht0⟩ := hc i hi 0 _ rfl
      obtain ⟨v1, n1, y1, hv1, ht1⟩ := hc i hi 1 _ rfl
      obtain ⟨a0, e0, rfl, -⟩ := DataW.trod_int Try.underlying2 ht0
      obtain ⟨a1, e1, rfl, -⟩ := DataW.trod_int Try.underlying2 ht1
      simp at e0 e1
      subst e0 e1
      exact ⟨(a0, a1), hv0, hv1⟩)
    refine ⟨some a, L, cap, rfl, hl, hm, fun hlen => ⟨a, rfl, ?_, fun i x hx j v hv => ?_⟩⟩
    · have := (hL 0 L[0] (List.getElem?_eq_getElem hlen)).1
      have := World.block_lt_of_cell? _ _ this
      rwa [block_of_add] at this
    · obtain ⟨h0, h1⟩ := hL i x hx
      match j, hv with
      | 0, hv => simp [sendV] at hv; subst hv; exact h0
      | 1, hv => simp [sendV] at hv; subst hv; exact h1
      | j + 2, hv => simp [sendV] at hv
end
end RowK
end Go.Proofs.Ytpgaklfgbioocaa

namespace Go.Proofs.Ytpgaklfgbioocaa
open Go.RowKit

/-- a spec lies in block b. -/
def HasSpec (w : World) (b : Nat) (p r u m l : Int) : Prop :=
  b < w.heap.size ∧ w.cell? ⟨b, 0, none⟩ = some (.int .i64 p) ∧ w.cell? ⟨b, 1, none⟩ = some (.int .i64 r) ∧ w.cell? ⟨b, 2, none⟩ = some (.int .i64 u) ∧ w.cell? ⟨b, 3, none⟩ = some (.int .i64 m) ∧ w.cell? ⟨b, 4, none⟩ = some (.int .i64 l)
section
variable {w w' : World} {b : Nat} {p r u m l : Int}
theorem HasSpec.step (h : HasSpec w b p r u m l) (hb : Below w.heap.size w w') : HasSpec w' b p r u m l :=
  ⟨Nat.lt_of_lt_of_le h.1 hb.size, (hb.cell h.1).trans h.2.1, (hb.cell h.1).trans h.2.2.1, (hb.cell h.1).trans h.2.2.2.1, (hb.cell h.1).trans h.2.2.2.2.1, (hb.cell h.1).trans h.2.2.2.2.2⟩
theorem HasSpec.past (h : HasSpec w b p r u m l) (o : Obj) : HasSpec (w.alloc o) b p r u m l := h.step ((Below.refl _ _).alloc (Nat.le_refl _) o)
theorem HasSpec.new (w : World) (t : TypeId) (p r u m l : Int) : HasSpec (w.alloc (.cells #[.int .i64 p, .int .i64 r, .int .i64 u, .int .i64 m, .int .i64 l] t)) w.heap.size p r u m l :=
  ⟨by simp, by simp [go_sem], by simp [go_sem], by simp [go_sem], by simp [go_sem], by simp [go_sem]⟩
theorem HasSpec.drew (h : HasSpec w b p r u m l) (n : Nat) : HasSpec (w.drewN n) b p r u m l := h
end

end Go.Proofs.Ytpgaklfgbioocaa

namespace Go.Proofs.Ytpgaklfgbioocaa
open Go.RowKit Go.Proofs.Ytpgaklfgbioocaa.RowK

def specA (a : Spc) : Value := .agg #[.int .i64 a.1, .int .i64 a.2.1, .int .i64 a.2.2.1, .int .i64 a.2.2.2.1, .int .i64 a.2.2.2.2]
end Go.Proofs.Ytpgaklfgbioocaa

namespace Go.Proofs.Ytpgaklfgbioocaa
open Go.RowKit Go.Proofs.Ytpgaklfgbioocaa.RowK

def rightS (x : Spc) : Bool := rightB x.1 x.2.1 x.2.2.1 x.2.2.2.1 x.2.2.2.2
def allRight (l : List Spc) : Bool := l.all rightS
def spAt (L : List Spc) (i : Nat) : Spc := L.getD i (0, 0, 0, 0, 0)
theorem spAt_get {L : List Spc} {i : Nat} (h : i < L.length) : L[i] = spAt L i := by
  simp [spAt, List.getD_eq_getElem?_getD, List.getElem?_eq_getElem h]
theorem Lie.spec {w : World} {B : Nat} {A : Option Addr} {l : List Spc} (h : Lie specV 5 w B A l) (i : Nat) (hi : i < l.length) :
    ∃ ad, A = some ad ∧ (ad.add (i * 5)).block < B ∧ w.cell? (ad.add (i * 5)) = some (.int .i64 (spAt l i).1) ∧ w.cell? ⟨(ad.add (i * 5)).block, (ad.add (i * 5)).off + 1, none⟩ = some (.int .i64 (spAt l i).2.1) ∧
      w.cell? ⟨(ad.add (i * 5)).block, (ad.add (i * 5)).off + 2, none⟩ = some (.int .i64 (spAt l i).2.2.1) ∧ w.cell? ⟨(ad.add (i * 5)).block, (ad.add (i * 5)).off + 3, none⟩ = some (.int .i64 (spAt l i).2.2.2.1) ∧ w.cell? ⟨(ad.add (i * 5)).block, (ad.add (i * 5)).off + 4, none⟩ = some (.int .i64 (spAt l i).2.2.2.2) := by
  obtain ⟨ad, e, hB, hc⟩ := h (by omega)
  have hx : l[i]? = some l[i] := List.getElem?_eq_getElem hi
  rw [← spAt_get hi]
  have h0 := hc i _ hx 0 _ rfl
  have h1 := hc i _ hx 1 _ rfl
  have h2 := hc i _ hx 2 _ rfl
  have h3 := hc i _ hx 3 _ rfl
  have h4 := hc i _ hx 4 _ rfl
  rw [← add_of_add] at h1 h2 h3 h4
  exact ⟨ad, e, by rw [block_of_add]; exact hB, h0, h1, h2, h3, h4⟩

/-- where the search ends. -/
def FoundEnd (l : List Spc) (w : World) (e : Ending) (w' : World) : Prop :=
  ∃ k : Int, e = .returned (.int .i64 k) ∧ decide (0 ≤ k) = !allRight l ∧ Below w.heap.size w w'
/-- none of them, or one of them none: nothing can be brought together. -/
def noneB (L : List Spc) : Bool := decide (L.length = 0) || !allRight L
end Go.Proofs.Ytpgaklfgbioocaa

namespace Go.Proofs.Ytpgaklfgbioocaa
open Go.RowKit Go.Proofs.Ytpgaklfgbioocaa.RowK

/-- the first n + 1, brought together. -/
def acc (two : Spc → Spc → Spc) (L : List Spc) : Nat → Spc
  | 0 => spAt L 0
  | n + 1 => two (acc two L n) (spAt L (n + 1))
theorem Lie.tail {w : World} {B : Nat} {ad : Addr} {L : List Spc} (h : Lie specV 5 w B (some ad) L) : Lie specV 5 w B (some ⟨ad.block, ad.off + 5, none⟩) L.tail := fun hl => by
  obtain ⟨ad', e, hB, hc⟩ := h (by cases L <;> simp_all)
  obtain rfl : ad = ad' := by injection e
  refine ⟨_, rfl, hB, fun i x hx j v hv => ?_⟩
  have e2 : Addr.add ⟨ad.block, ad.off + 5, none⟩ (i * 5 + j) = ad.add ((i + 1) * 5 + j) := by
    have : (⟨ad.block, ad.off + 5, none⟩ : Addr) = ad.add 5 := rfl
    rw [this, add_of_add]; congr 1; omega
  rw [e2]
  exact hc (i + 1) x (by rw [← hx]; cases L <;> simp) j v hv
theorem spAt_tail (L : List Spc) (i : Nat) : spAt L.tail i = spAt L (i + 1) := by
  cases L <;> simp [spAt, List.getD_eq_getElem?_getD]
/-- a box of a spec that may be written. -/
def Box (w : World) (b : Nat) (x : Spc) : Prop :=
  HasSpec w b x.1 x.2.1 x.2.2.1 x.2.2.2.1 x.2.2.2.2 ∧ w.frozen? ⟨b, 0, none⟩ = false ∧ w.frozen? ⟨b, 1, none⟩ = false ∧ w.frozen? ⟨b, 2, none⟩ = false ∧ w.frozen? ⟨b, 3, none⟩ = false ∧ w.frozen? ⟨b, 4, none⟩ = false
theorem Box.step {w w' : World} {b : Nat} {x : Spc} (h : Box w b x) (hb : Below w.heap.size w w') : Box w' b x := by
  have hz := h.1.1
  exact ⟨h.1.step hb, (hb.frozen (p := ⟨b, 0, none⟩) hz).trans h.2.1, (hb.frozen (p := ⟨b, 1, none⟩) hz).trans h.2.2.1, (hb.frozen (p := ⟨b, 2, none⟩) hz).trans h.2.2.2.1, (hb.frozen (p := ⟨b, 3, none⟩) hz).trans h.2.2.2.2.1, (hb.frozen (p := ⟨b, 4, none⟩) hz).trans h.2.2.2.2.2⟩
theorem Box.past {w : World} {b : Nat} {x : Spc} (h : Box w b x) (o : Obj) : Box (w.alloc o) b x := h.step ((Below.refl _ _).alloc (Nat.le_refl _) o)
theorem Box.new (w : World) (t : TypeId) (p r u m l : Int) : Box (w.alloc (.cells #[.int .i64 p, .int .i64 r, .int .i64 u, .int .i64 m, .int .i64 l] t)) w.heap.size (p, r, u, m, l) :=
  ⟨HasSpec.new w t p r u m l, by simp [go_sem], by simp [go_sem], by simp [go_sem], by simp [go_sem], by simp [go_sem]⟩

theorem Box.new' {w : World} {b : Nat} (hb : w.heap.size = b) (t : TypeId) (x : Spc) : Box (w.alloc (.cells #[.int .i64 x.1, .int .i64 x.2.1, .int .i64 x.2.2.1, .int .i64 x.2.2.2.1, .int .i64 x.2.2.2.2] t)) b x := by
  subst hb; exact Box.new w t x.1 x.2.1 x.2.2.1 x.2.2.2.1 x.2.2.2.2
theorem add_plain (b o n : Nat) : Addr.add ⟨b, o, none⟩ n = ⟨b, o + n, none⟩ := by
  unfold Addr.add; split <;> simp_all
end Go.Proofs.Ytpgaklfgbioocaa

namespace Go.Proofs.Ytpgaklfgbioocaa
open Go.RowKit Go.Proofs.Ytpgaklfgbioocaa.RowK

theorem HasSpec.new' {w : World} {b : Nat} (hb : w.heap.size = b) (t : TypeId) (p r u m l : Int) : HasSpec (w.alloc (.cells #[.int .i64 p, .int .i64 r, .int .i64 u, .int .i64 m, .int .i64 l] t)) b p r u m l := by
  subst hb; exact HasSpec.new w t p r u m l
end Go.Proofs.Ytpgaklfgbioocaa

namespace Go.Proofs.Ytpgaklfgbioocaa
namespace SM

section
variable (a s : Nat → Int)
/-- how many bytes are sent ahead of the i-th. -/
def S : Nat → Int
  | 0 => 0
  | i + 1 => S i + s i
def now : Nat → Int
  | 0 => 0
  | i + 1 => a i
def K (rate : Int) : Nat → Int
  | 0 => 0
  | i + 1 => more rate (K rate i) (now a i) (a i) (s i)
variable {a s}
end
def av (L : List (Int × Int)) (i : Nat) : Int := (L.getD i (0, 0)).1
def sv (L : List (Int × Int)) (i : Nat) : Int := (L.getD i (0, 0)).2
end SM
end Go.Proofs.Ytpgaklfgbioocaa

namespace Go.Proofs.Ytpgaklfgbioocaa
namespace SM
theorem av_app {L : List (Int × Int)} {x : Int × Int} {i : Nat} (h : i < L.length) : av (L ++ [x]) i = av L i ∧ sv (L ++ [x]) i = sv L i := by
  simp [av, sv, List.getD_eq_getElem?_getD, List.getElem?_append_left h]
theorem av_last {L : List (Int × Int)} {x : Int × Int} : av (L ++ [x]) L.length = x.1 ∧ sv (L ++ [x]) L.length = x.2 := by
  simp [av, sv, List.getD_eq_getElem?_getD]
end SM
end Go.Proofs.Ytpgaklfgbioocaa

namespace Go.Proofs.Ytpgaklfgbioocaa
set_option linter.unusedVariables false
open Go.RowKit Go.Proofs.Ytpgaklfgbioocaa.RowK

theorem av_at {L : List (Int × Int)} {i : Nat} (h : i < L.length) : L[i].1 = SM.av L i ∧ L[i].2 = SM.sv L i := by
  simp [SM.av, SM.sv, List.getD_eq_getElem?_getD, List.getElem?_eq_getElem h]
end Go.Proofs.Ytpgaklfgbioocaa

namespace Go.Proofs.Ytpgaklfgbioocaa
set_option linter.unusedVariables false
open Go.RowKit Go.Proofs.Ytpgaklfgbioocaa.RowK

section
variable {α : Type} {f : α → List Value} {sz : Nat}
def rowOf (f : α → List Value) (L : List α) : List Value := L.flatMap f
theorem row_len (hf : ∀ x, (f x).length = sz) : ∀ L : List α, (rowOf f L).length = L.length * sz
  | [] => by simp [rowOf]
  | x :: L => by
    have := row_len hf L
    simp only [rowOf, List.flatMap_cons, List.length_append, List.length_cons] at *
    rw [this, hf, Nat.add_mul]
    omega
theorem row_at (hf : ∀ x, (f x).length = sz) : ∀ (L : List α) (i : Nat) (x : α), L[i]? = some x → ∀ (j : Nat) (v : Value), (f x)[j]? = some v → (rowOf f L)[i * sz + j]? = some v
  | [], i, x, h, _, _, _ => by simp at h
  | y :: L, 0, x, h, j, v, hv => by
    have : y = x := by simpa using h
    subst this
    have hj : j < (f y).length := (List.getElem?_eq_some_iff.1 hv).1
    simp only [rowOf, List.flatMap_cons]
    rw [List.getElem?_append_left (by omega)]
    simpa using hv
  | y :: L, i + 1, x, h, j, v, hv => by
    have h' : L[i]? = some x := by simpa using h
    have ih := row_at hf L i x h' j v hv
    simp only [rowOf, List.flatMap_cons] at *
    have e : (i + 1) * sz = sz + i * sz := by rw [Nat.add_mul]; omega
    rw [e, List.getElem?_append_right (by rw [hf]; omega), hf]
    have e2 : sz + i * sz + j - sz = i * sz + j := by omega
    rw [e2]
    exact ih
theorem row_snoc (f : α → List Value) (L : List α) (x : α) : rowOf f (L ++ [x]) = rowOf f L ++ f x := by
  simp [rowOf]
/-- a slice that the call owns holds a list. -/
def OwnL (f : α → List Value) (sz : Nat) (w : World) (base : Nat) (e : TypeId) (v : Value) (L : List α) : Prop := w.ownsRow base e sz v L.length (rowOf f L)
theorem OwnL.lie {w : World} {base : Nat} {e : TypeId} {v : Value} {L : List α} (h : OwnL f sz w base e v L) (hf : ∀ x, (f x).length = sz) : ∃ A c, v = .slice A L.length c ∧ L.length ≤ c ∧ c ≤ maxLen ∧ Lie f sz w w.heap.size A L := by
  rcases h.2 with ⟨rfl, h0⟩ | ⟨g, cap, cur, rfl, hb, hh, hn, hm, hsz, ht⟩
  · have : L = [] := List.eq_nil_of_length_eq_zero h0
    subst this
    exact ⟨none, 0, rfl, by simp, by simp [maxLen], Lie.nil⟩
  · refine ⟨_, cap, rfl, hn, hm, fun hl => ⟨_, rfl, ?_, fun i x hx j v hv => ?_⟩⟩
    · rcases Nat.lt_or_ge g w.heap.size with hlt | hge
      · exact hlt
      · rw [Array.getElem?_eq_none hge] at hh; cases hh
    · exact World.ownsRow.cells h (g := g) rfl _ _ (row_at hf L i x hx j v hv)
theorem OwnL.below {w w' : World} {base : Nat} {e : TypeId} {v : Value} {L : List α} (h : OwnL f sz w base e v L) (hb : Below w.heap.size w w') : OwnL f sz w' base e v L := by
  refine ⟨h.1, ?_⟩
  rcases h.2 with h0 | ⟨g, cap, cur, rfl, hbs, hh, hr⟩
  · exact .inl h0
  · refine .inr ⟨g, cap, cur, rfl, hbs, ?_, hr⟩
    rw [hb.block g]
    · exact hh
    · rcases Nat.lt_or_ge g w.heap.size with hlt | hge
      · exact hlt
      · rw [Array.getElem?_eq_none hge] at hh; cases hh
theorem OwnL.kept {w w' : World} {base : Nat} {e : TypeId} {v : Value} {L : List α} {row : Option Nat} (h : OwnL f sz w base e v L) (hg : w.grownBy w' row) (hne : v.ownBlock = none ∨ v.ownBlock ≠ row) : OwnL f sz w' base e v L :=
  World.ownsRow.kept h hg hne
theorem OwnL.alloc {w : World} {base : Nat} {e : TypeId} {v : Value} {L : List α} (h : OwnL f sz w base e v L) (o : Obj) : OwnL f sz (w.alloc o) base e v L := World.ownsRow.alloc h o
theorem OwnL.drew {w : World} {base : Nat} {e : TypeId} {v : Value} {L : List α} (h : OwnL f sz w base e v L) : OwnL f sz w.drew base e v L := h
theorem OwnL.snoc {w : World} {base : Nat} {e : TypeId} {v : Value} {L : List α} {x : α} {n : Nat} {xs : List Value} (h : w.ownsRow base e sz v n xs) (hn : n = L.length + 1) (hx : xs = rowOf f L ++ f x) : OwnL f sz w base e v (L ++ [x]) := by
  subst hn hx
  unfold OwnL
  rw [row_snoc]
  simpa using h
theorem OwnL.nil (w : World) (base : Nat) (e : TypeId) : OwnL f sz w base e (.slice none 0 0) [] := World.ownsRow_nil w base e sz
theorem OwnL.lt {w : World} {base : Nat} {e : TypeId} {v : Value} {L : List α} (h : OwnL f sz w base e v L) : ∀ k, v.ownBlock = some k → base ≤ k ∧ k < w.heap.size := World.ownsRow.lt h
end

theorem append_empty {P : Program} (w : World) (base : Nat) (t ty e : TypeId) (i : TypeInfo) (size : Nat) (ht : P.underlying t = some (.slice e)) (hi : P.info? e = some i)
    (v : Value) (n : Nat) (xs : List Value) (hown : w.ownsRow base e size v n xs) (c : Nat) : (Builtin.append_ #[t, t] ty #[v, .slice none 0 c]).run P w = .ok v w := by
  obtain ⟨_, h⟩ := hown
  rcases h with ⟨rfl, _⟩ | ⟨g, cap, cur, rfl, _, _, hnc, _⟩
  · simp [Builtin.append_, run_underlying ht, sizeOf, typeInfo, hi, Builtin.lenOf, Builtin.firstCells]
  · simp [Builtin.append_, run_underlying ht, sizeOf, typeInfo, hi, Builtin.lenOf, Builtin.firstCells, storeCells, hnc]
/-- append of whatever lies there, nothing let in. -/
theorem run_append_some {P : Program} (w : World) (t ty : TypeId) (base : Nat) (e : TypeId) (i : TypeInfo) (z : Value) (size bytes : Nat) (ht : P.underlying t = some (.slice e)) (hi : P.info? e = some i) (hz : i.zero = some z)
    (hsize : i.size = size) (hby : i.bytes = bytes) (hzs : z.cells.size = size) (hsz : 0 < size)
    (v : Value) (n : Nat) (xs : List Value) (hown : w.ownsRow base e size v n xs)
    (A : Option Addr) (m c : Nat) (news : List Value) (hl : news.length = m * size) (hsrc : 0 < m → ∃ ad, A = some ad ∧ ∀ j u, news[j]? = some u → w.cell? (ad.add j) = some u) (h1 : ∀ u ∈ news, u.oneCell' = true)
    (h63 : n + m ≤ maxLen) (hbytes : (n + m) * bytes ≤ 140737488355328) (hbase : base ≤ w.heap.size) :
    ∃ v' w', (Builtin.append_ #[t, t] ty #[v, .slice A m c]).run P w = .ok v' w' ∧ w'.ownsRow base e size v' (n + m) (xs ++ news) ∧ w.grownBy w' v.ownBlock ∧ (v'.ownBlock = v.ownBlock ∨ v'.ownBlock = some w.heap.size) := by
  have hnil : m = 0 → news = [] := fun h => List.eq_nil_of_length_eq_zero (by rw [hl, h, Nat.zero_mul])
  cases A with
  | none =>
    have h0 : m = 0 := by
      rcases Nat.eq_zero_or_pos m with h0 | h0
      · exact h0
      · obtain ⟨ad, e, _⟩ := hsrc h0; cases e
    obtain rfl := hnil h0
    subst h0
    exact ⟨v, w, append_empty w base t ty e i size ht hi v n xs hown c, by simpa using hown, World.grownBy.refl w _, .inl rfl⟩
  | some ad =>
    have hnews : ∀ j u, news[j]? = some u → w.cell? (ad.add j) = some u := by
      intro j u hu
      rcases Nat.eq_zero_or_pos m with h0 | h0
      · rw [hnil h0] at hu; simp at hu
      · obtain ⟨ad', e, hc⟩ := hsrc h0
        obtain rfl : ad = ad' := by injection e
        exact hc j u hu
    obtain ⟨v', w', hr, h2, h3, _, h5⟩ := run_append_own_at (P := P) w base t ty e i z size bytes ht hi hz hsize hby hzs hsz v n xs hown ad m c news hl hnews h1 h63 hbytes hbase
    exact ⟨v', w', hr, h2, h3, h5⟩
theorem wp_append_some {P : Program} {w : World} {o : Oper} {a : Act} {K : Act → World → Prop} {Q : Exit → Act → World → Prop} (s x : Operand) (t : TypeId)
    (ho : o.op = .call { callee := .builtin .append, args := #[s, x], argTypes := #[t, t] })
    (base : Nat) (e : TypeId) (i : TypeInfo) (z : Value) (size bytes : Nat) (ht : P.underlying t = some (.slice e)) (hi : P.info? e = some i) (hz : i.zero = some z)
    (hsize : i.size = size) (hby : i.bytes = bytes) (hzs : z.cells.size = size) (hsz : 0 < size)
    (v : Value) (n : Nat) (xs : List Value) (hs : a.eval s = v) (hown : w.ownsRow base e size v n xs)
    (A : Option Addr) (m c : Nat) (news : List Value) (hx : a.eval x = .slice A m c) (hl : news.length = m * size) (hsrc : 0 < m → ∃ ad, A = some ad ∧ ∀ j u, news[j]? = some u → w.cell? (ad.add j) = some u) (h1 : ∀ u ∈ news, u.oneCell' = true)
    (h63 : n + m ≤ maxLen) (hbytes : (n + m) * bytes ≤ 140737488355328) (hbase : base ≤ w.heap.size)
    (h : ∀ v' w', w'.ownsRow base e size v' (n + m) (xs ++ news) → w.grownBy w' v.ownBlock → (v'.ownBlock = v.ownBlock ∨ v'.ownBlock = some w.heap.size) → K (a.put o.dst v') w') : o.wp P a w K Q := by
  obtain ⟨v', w', hr, h2, h3, h4⟩ := run_append_some (P := P) w t o.type base e i z size bytes ht hi hz hsize hby hzs hsz v n xs hown A m c news hl hsrc h1 h63 hbytes hbase
  unfold Oper.wp execOp
  simp only [ho, resolve, invoke, builtin, Sem.run_bind, Sem.run_pure, Result.andThen_ok, List.map_toArray, List.map_cons, List.map_nil, hs, hx, hr]
  exact h v' w' h2 h3 h4
theorem step_append_some {P : Program} {w : World} {ops : Array Oper} {o : Oper} {a : Act} {K : Act → World → Prop} {Q : Exit → Act → World → Prop} {E : Prop} (hgd : o.guard = none) (s x : Operand) (t : TypeId)
    (ho : o.op = .call { callee := .builtin .append, args := #[s, x], argTypes := #[t, t] })
    (base : Nat) (e : TypeId) (i : TypeInfo) (z : Value) (size bytes : Nat) (ht : P.underlying t = some (.slice e)) (hi : P.info? e = some i) (hz : i.zero = some z)
    (hsize : i.size = size) (hby : i.bytes = bytes) (hzs : z.cells.size = size) (hsz : 0 < size)
    (v : Value) (n : Nat) (xs : List Value) (hs : a.eval s = v) (hown : w.ownsRow base e size v n xs)
    (A : Option Addr) (m c : Nat) (news : List Value) (hx : a.eval x = .slice A m c) (hl : news.length = m * size) (hsrc : 0 < m → ∃ ad, A = some ad ∧ ∀ j u, news[j]? = some u → w.cell? (ad.add j) = some u) (h1 : ∀ u ∈ news, u.oneCell' = true)
    (h63 : n + m ≤ maxLen) (hbytes : (n + m) * bytes ≤ 140737488355328) (hbase : base ≤ w.heap.size)
    (h : ∀ v' w', w'.ownsRow base e size v' (n + m) (xs ++ news) → w.grownBy w' v.ownBlock → (v'.ownBlock = v.ownBlock ∨ v'.ownBlock = some w.heap.size) → K (a.put o.dst v') w') :
    if Region.wanted o (yielded ops a.tmps) = true then Oper.wp P o a w K Q else E := by
  have hw : Region.wanted o (yielded ops a.tmps) = true := by simp [Region.wanted, hgd]
  rw [if_pos hw]
  exact wp_append_some s x t ho base e i z size bytes ht hi hz hsize hby hzs hsz v n xs hs hown A m c news hx hl hsrc h1 h63 hbytes hbase h
theorem wpList_append_some {P : Program} {w : World} {ops : Array Oper} {rest : List Oper} {o : Oper} {a : Act} {Q : Exit → Act → World → Prop} (hgd : o.guard = none) (s x : Operand) (t : TypeId)
    (ho : o.op = .call { callee := .builtin .append, args := #[s, x], argTypes := #[t, t] })
    (base : Nat) (e : TypeId) (i : TypeInfo) (z : Value) (size bytes : Nat) (ht : P.underlying t = some (.slice e)) (hi : P.info? e = some i) (hz : i.zero = some z)
    (hsize : i.size = size) (hby : i.bytes = bytes) (hzs : z.cells.size = size) (hsz : 0 < size)
    (v : Value) (n : Nat) (xs : List Value) (hs : a.eval s = v) (hown : w.ownsRow base e size v n xs)
    (A : Option Addr) (m c : Nat) (news : List Value) (hx : a.eval x = .slice A m c) (hl : news.length = m * size) (hsrc : 0 < m → ∃ ad, A = some ad ∧ ∀ j u, news[j]? = some u → w.cell? (ad.add j) = some u) (h1 : ∀ u ∈ news, u.oneCell' = true)
    (h63 : n + m ≤ maxLen) (hbytes : (n + m) * bytes ≤ 140737488355328) (hbase : base ≤ w.heap.size)
    (h : ∀ v' w', w'.ownsRow base e size v' (n + m) (xs ++ news) → w.grownBy w' v.ownBlock → (v'.ownBlock = v.ownBlock ∨ v'.ownBlock = some w.heap.size) → wpList P ops Q rest (a.put o.dst v') w') : wpList P ops Q (o :: rest) a w :=
  wpList_plain hgd fun _ hK => wp_append_some s x t ho base e i z size bytes ht hi hz hsize hby hzs hsz v n xs hs hown A m c news hx hl hsrc h1 h63 hbytes hbase fun v' w' h2 h3 h4 => hK _ _ (h v' w' h2 h3 h4)
theorem sendV_len (x : Int × Int) : (sendV x).length = 2 := rfl
theorem rowOf_one {α : Type} {f : α → List Value} (hf : ∀ x, ∀ u ∈ f x, u.oneCell' = true) (L : List α) : ∀ u ∈ rowOf f L, u.oneCell' = true := fun u hu => by
  obtain ⟨x, _, hx⟩ := List.mem_flatMap.1 hu
  exact hf x u hx
theorem sendV_one (x : Int × Int) : ∀ u ∈ sendV x, u.oneCell' = true := fun u hu => by
  simp [sendV] at hu
  rcases hu with rfl | rfl <;> rfl
end Go.Proofs.Ytpgaklfgbioocaa

namespace Go.Proofs.Ytpgaklfgbioocaa
set_option linter.unusedVariables false
open Go.RowKit Go.Proofs.Ytpgaklfgbioocaa.RowK

def cmpV (a b : Int) : Int := if a < b then -1 else if b < a then 1 else 0
theorem isNaN_any (a : Int) (w : World) : Calls Try.prog 50 #[.int .i64 a] w fun e w' => e = .returned (.bool false) ∧ w' = w := by
  go_enter Try.func50, Try.ntmps50
  go_wp2
  go_ret
  exact ⟨by simp, rfl⟩
theorem compare_any (a b : Int) (w : World) : Calls Try.prog 38 #[.int .i64 a, .int .i64 b] w fun e w' => e = .returned (.int .i64 (cmpV a b)) ∧ w' = w := by
  have ca := hidd (fun W => isNaN_any a W)
  have cb := hidd (fun W => isNaN_any b W)
  rcases Int.lt_trichotomy a b with h | h | h
  · have hv : cmpV a b = -1 := by unfold cmpV; rw [if_pos h]
    rw [hv]
    clear hv
    go_enter Try.func38, Try.ntmps38
    go_wp2_with fail
    refine (ca.out _).mono ?_
    rintro e w' ⟨rfl, rfl⟩
    go_wp2_with fail
    refine (cb.out _).mono ?_
    rintro e w' ⟨rfl, rfl⟩
    go_wp2_with fail
    go_ret
    exact ⟨rfl, rfl⟩
  · subst h
    have hv : cmpV a a = 0 := by unfold cmpV; rw [if_neg (by omega), if_neg (by omega)]
    rw [hv]
    clear hv
    go_enter Try.func38, Try.ntmps38
    go_wp2_with fail
    refine (ca.out _).mono ?_
    rintro e w' ⟨rfl, rfl⟩
    go_wp2_with fail
    refine (cb.out _).mono ?_
    rintro e w' ⟨rfl, rfl⟩
    go_wp2_with fail
    go_ret
    exact ⟨rfl, rfl⟩
  · have hn : ¬ a < b := by omega
    have hv : cmpV a b = 1 := by unfold cmpV; rw [if_neg hn, if_pos h]
    rw [hv]
    clear hv
    go_enter Try.func38, Try.ntmps38
    go_wp2_with fail
    refine (ca.out _).mono ?_
    rintro e w' ⟨rfl, rfl⟩
    go_wp2_with fail
    refine (cb.out _).mono ?_
    rintro e w' ⟨rfl, rfl⟩
    go_wp2_with fail
    go_ret
    exact ⟨rfl, rfl⟩
def orV (x y : Int) : Int := if x = 0 then y else x
theorem or_any (x y : Int) (b : Nat) (w : World) (h0 : w.cell? ⟨b, 0, none⟩ = some (.int .i64 x)) (h1 : w.cell? ⟨b, 1, none⟩ = some (.int .i64 y)) :
    Calls Try.prog 37 #[.slice (some ⟨b, 0, none⟩) 2 2] w fun e w' => e = .returned (.int .i64 (orV x y)) ∧ w' = w := by
  by_cases hx : x = 0
  · subst hx
    have hv : orV 0 y = y := by unfold orV; rw [if_pos rfl]
    rw [hv]
    clear hv
    by_cases hy : y = 0
    · subst hy
      go_enter Try.func37, Try.ntmps37
      go_wp2_with fail
      refine wp_loop_rounds 3 ?_
      rw [rounds_succ]
      go_wp2_with fail
      rw [rounds_succ]
      go_wp2_with fail
      rw [rounds_succ]
      go_wp2_with fail
      go_ret
      exact ⟨rfl, rfl⟩
    · have hy2 : (y != 0) = true := by simp [hy]
      clear hy
      go_enter Try.func37, Try.ntmps37
      go_wp2_with fail
      refine wp_loop_rounds 3 ?_
      rw [rounds_succ]
      go_wp2_with fail
      rw [rounds_succ]
      go_wp2_with fail
      go_ret
      exact ⟨rfl, rfl⟩
  · have hv : orV x y = x := by unfold orV; rw [if_neg hx]
    have hx2 : (x != 0) = true := by simp [hx]
    rw [hv]
    clear hv hx
    go_enter Try.func37, Try.ntmps37
    go_wp2_with fail
    refine wp_loop_rounds 3 ?_
    rw [rounds_succ]
    go_wp2_with fail
    go_ret
    exact ⟨rfl, rfl⟩
/-- which of two lines is first: by Burst, then by Rate. -/
def lineC (a b : Int × Int) : Int := orV (cmpV a.1 b.1) (cmpV a.2 b.2)
theorem bendOf_any (a0 a1 b0 b1 : Int) (h0 : 0 ≤ a0) (h1 : a0 ≤ 2000000000) (h2 : 0 ≤ a1) (h3 : a1 ≤ 2000000000) (k0 : 0 ≤ b0) (k1 : b0 ≤ 2000000000) (k2 : 0 ≤ b1) (k3 : b1 ≤ 2000000000) (w : World) :
    Calls Try.prog 39 #[.agg #[.int .i64 a0, .int .i64 a1], .agg #[.int .i64 b0, .int .i64 b1]] w fun e w' => e = .returned (.agg #[.int .i64 (b0 - a0), .int .i64 (a1 - b1)]) ∧ Below w.heap.size w w' := by
  go_enter Try.func39, Try.ntmps39
  go_wp2_with fail
  exact bodyPost_ret (v := .agg #[.int .i64 (b0 - a0), .int .i64 (a1 - b1)]) (by simp [results, Try.results39, go_sem]) rfl ⟨rfl, by (repeat' (first | (with_reducible exact Below.refl _ _) | (with_reducible assumption) | (with_reducible apply Below.setCell) | (with_reducible apply Below.alloc) | (with_reducible apply Below.drew) | (with_reducible apply below_drewN) | (with_reducible refine Below.trans ?_ (Below.mono (by assumption) ?_)) | omega | (simp; done) | (simp; omega)))⟩
theorem prod_bd {x y : Int} (h0 : -2000000000 ≤ x) (h1 : x ≤ 2000000000) (k0 : -2000000000 ≤ y) (k1 : y ≤ 2000000000) : -4000000000000000000 ≤ x * y ∧ x * y ≤ 4000000000000000000 := by
  have e1 : (x * y).natAbs = x.natAbs * y.natAbs := Int.natAbs_mul x y
  have e2 : x.natAbs * y.natAbs ≤ 2000000000 * 2000000000 := Nat.mul_le_mul (by omega) (by omega)
  omega
theorem against_any (p0 p1 q0 q1 : Int) (hp : -2000000000 ≤ p0 ∧ p0 ≤ 2000000000 ∧ -2000000000 ≤ p1 ∧ p1 ≤ 2000000000) (hq : -2000000000 ≤ q0 ∧ q0 ≤ 2000000000 ∧ -2000000000 ≤ q1 ∧ q1 ≤ 2000000000) (w : World) :
    Calls Try.prog 40 #[.agg #[.int .i64 p0, .int .i64 p1], .agg #[.int .i64 q0, .int .i64 q1]] w fun e w' => e = .returned (.int .i64 (cmpV (p0 * q1) (q0 * p1))) ∧ Below w.heap.size w w' := by
  obtain ⟨u0, u1⟩ := prod_bd hp.1 hp.2.1 hq.2.2.1 hq.2.2.2
  obtain ⟨v0, v1⟩ := prod_bd hq.1 hq.2.1 hp.2.2.1 hp.2.2.2
  have c1 := hidd (fun W => compare_any (p0 * q1) (q0 * p1) W)
  have e1 : IntKind.i64.wrap (p0 * q1) = p0 * q1 := IntWalk.i64_in _ (by omega)
  have e2 : IntKind.i64.wrap (q0 * p1) = q0 * p1 := IntWalk.i64_in _ (by omega)
  have f1 : wrap64 (p0 * q1) = p0 * q1 := by rw [← e1]; simp [IntKind.wrap_i64, wrap64]
  have f2 : wrap64 (q0 * p1) = q0 * p1 := by rw [← e2]; simp [IntKind.wrap_i64, wrap64]
  generalize hX : p0 * q1 = X at *
  generalize hY : q0 * p1 = Y at *
  clear hp hq e1 e2 f1 f2
  go_enter Try.func40, Try.ntmps40
  go_wp2_with fail
  refine (c1.out _).mono ?_
  rintro e w1 ⟨rfl, rfl⟩
  go_wp2_with fail
  go_ret
  exact ⟨rfl, by (repeat' (first | (with_reducible exact Below.refl _ _) | (with_reducible assumption) | (with_reducible apply Below.setCell) | (with_reducible apply Below.alloc) | (with_reducible apply Below.drew) | (with_reducible apply below_drewN) | (with_reducible refine Below.trans ?_ (Below.mono (by assumption) ?_)) | omega | (simp; done) | (simp; omega)))⟩
/-- may a line be. -/
def mayB (x : Int × Int) : Bool := decide (0 ≤ x.1 ∧ x.1 ≤ 1000000000 ∧ 0 ≤ x.2 ∧ x.2 ≤ 1000000000)
theorem mayB_iff {x : Int × Int} (h : mayB x = true) : 0 ≤ x.1 ∧ x.1 ≤ 1000000000 ∧ 0 ≤ x.2 ∧ x.2 ≤ 1000000000 := of_decide_eq_true h
theorem isNoLine_any (a b : Int) (w : World) : Calls Try.prog 30 #[.agg #[.int .i64 a, .int .i64 b]] w fun e w' => e = .returned (.bool (!mayB (a, b))) ∧ Below w.heap.size w w' := by
  have hb : ∀ R, mayB (a, b) = R → Hid (R = decide (0 ≤ a ∧ a ≤ 1000000000 ∧ 0 ≤ b ∧ b ≤ 1000000000)) := fun R h => by subst h; exact rfl
  have HB := hb _ rfl
  generalize mayB (a, b) = R at *
  clear hb
  go_enter Try.func30, Try.ntmps30
  go_wp2_with fail
  all_goals go_ret
  all_goals (refine ⟨ret_bool ?_, by (repeat' (first | (with_reducible exact Below.refl _ _) | (with_reducible assumption) | (with_reducible apply Below.setCell) | (with_reducible apply Below.alloc) | (with_reducible apply Below.drew) | (with_reducible apply below_drewN) | (with_reducible refine Below.trans ?_ (Below.mono (by assumption) ?_)) | omega | (simp; done) | (simp; omega)))⟩; rw [HB.out]; first | (simp [*]; done) | (rw [Bool.eq_iff_iff]; simp [*]; done) | (rw [Bool.eq_iff_iff]; simp [*]; omega) | (simp [*]; omega))
theorem refMay_any (a b : Int) (w : World) : Calls Try.prog 19 #[.agg #[.int .i64 a, .int .i64 b]] w fun e w' => e = .returned (.bool (mayB (a, b))) ∧ Below w.heap.size w w' := by
  have hb : ∀ R, mayB (a, b) = R → Hid (R = decide (0 ≤ a ∧ a ≤ 1000000000 ∧ 0 ≤ b ∧ b ≤ 1000000000)) := fun R h => by subst h; exact rfl
  have HB := hb _ rfl
  generalize mayB (a, b) = R at *
  clear hb
  go_enter Try.func19, Try.ntmps19
  go_wp2_with fail
  all_goals go_ret
  all_goals (refine ⟨ret_bool ?_, by (repeat' (first | (with_reducible exact Below.refl _ _) | (with_reducible assumption) | (with_reducible apply Below.setCell) | (with_reducible apply Below.alloc) | (with_reducible apply Below.drew) | (with_reducible apply below_drewN) | (with_reducible refine Below.trans ?_ (Below.mono (by assumption) ?_)) | omega | (simp; done) | (simp; omega)))⟩; rw [HB.out]; first | (simp [*]; done) | (simp [*]; omega))
theorem high_bd {b r t : Int} (h0 : 0 ≤ b) (h1 : b ≤ 1000000000) (h2 : 0 ≤ r) (h3 : r ≤ 1000000000) (k0 : 0 ≤ t) (k1 : t ≤ 2147483647) : 0 ≤ r * t ∧ r * t ≤ 2147483647000000000 := by
  refine ⟨Int.mul_nonneg h2 k0, ?_⟩
  have : r * t ≤ 1000000000 * 2147483647 := Int.mul_le_mul h3 k1 k0 (by decide)
  omega
theorem height_any (b r t : Int) (h0 : 0 ≤ b) (h1 : b ≤ 1000000000) (h2 : 0 ≤ r) (h3 : r ≤ 1000000000) (k0 : 0 ≤ t) (k1 : t ≤ 2147483647) (w : World) :
    Calls Try.prog 28 #[.agg #[.int .i64 b, .int .i64 r], .int .i64 t] w fun e w' => e = .returned (.int .i64 (b + r * t)) ∧ Below w.heap.size w w' := by
  obtain ⟨u0, u1⟩ := high_bd h0 h1 h2 h3 k0 k1
  generalize hX : r * t = X at *
  go_enter Try.func28, Try.ntmps28
  go_wp2_with fail
  go_ret
  exact ⟨rfl, by (repeat' (first | (with_reducible exact Below.refl _ _) | (with_reducible assumption) | (with_reducible apply Below.setCell) | (with_reducible apply Below.alloc) | (with_reducible apply Below.drew) | (with_reducible apply below_drewN) | (with_reducible refine Below.trans ?_ (Below.mono (by assumption) ?_)) | omega | (simp; done) | (simp; omega)))⟩
theorem curveTick_any (n : Int) (w : World) : Calls Try.prog 27 #[.int .i64 n] w fun e w' => e = .returned (.bool (tickB n)) ∧ w = w' := by
  by_cases h0 : 0 ≤ n
  · by_cases h1 : n ≤ 2147483647
    · have hr : tickB n = true := decide_eq_true ⟨h0, h1⟩
      rw [hr]
      go_enter Try.func27, Try.ntmps27
      go_wp2
      go_ret
      exact ⟨by simp, rfl⟩
    · have hr : tickB n = false := decide_eq_false (fun h => h1 h.2)
      rw [hr]
      go_enter Try.func27, Try.ntmps27
      go_wp2
      go_ret
      exact ⟨by simp, rfl⟩
  · have hr : tickB n = false := decide_eq_false (fun h => h0 h.1)
    rw [hr]
    go_enter Try.func27, Try.ntmps27
    go_wp2
    go_ret
    exact ⟨by simp, rfl⟩
end Go.Proofs.Ytpgaklfgbioocaa

namespace Go.Proofs.Ytpgaklfgbioocaa
set_option linter.unusedVariables false
open Go.RowKit Go.Proofs.Ytpgaklfgbioocaa.RowK

set_option maxHeartbeats 2000000 in
theorem same_any (A B : Option Addr) (L M : List (Int × Int)) (c d : Nat) (hL : L.length ≤ 1000000) (hM : M.length ≤ 1000000) (w : World) (hA : Lie sendV 2 w w.heap.size A L) (hB : Lie sendV 2 w w.heap.size B M) :
    Calls Try.prog 15 #[.slice A L.length c, .slice B M.length d] w fun e w' => e = .returned (.bool (decide (L = M))) ∧ ∃ q, w' = w.drewN q := by
  have HA := hidd hA
  have HB := hidd hB
  obtain ⟨R, hR⟩ : ∃ R, decide (L = M) = R := ⟨_, rfl⟩
  rw [hR]
  have HR := hidd hR
  clear hA hB hR
  by_cases hn : L.length = M.length
  · have HN := hidd hn
    have hn2 : (L.length : Int) = (M.length : Int) := by omega
    obtain ⟨n, hln⟩ : ∃ n, L.length = n := ⟨_, rfl⟩
    have HLN := hidd hln
    rw [← hn, hln]
    rw [hln] at hL
    clear hn hln hn2 hM
    go_enter Try.func15, Try.ntmps15
    go_wp2_with fail
    go_loopg [5] (n + 1) (fun g s wr => ∃ (i q : Nat), i ≤ n ∧ i + g = n + 1 ∧ s = .int .i64 (i : Int) ∧ (∀ j, j < i → SM.av L j = SM.av M j ∧ SM.sv L j = SM.sv M j) ∧ wr = w.drewN q)
    case atStart => exact ⟨0, 0, by omega, by omega, rfl, fun j hj => absurd hj (by omega), rfl⟩
    case round =>
      obtain ⟨i, q, hi, hg, rfl, hs, rfl⟩ := hrel
      have HG := hidd hg
      have HS := hidd hs
      clear hg hs
      by_cases hin : i < n
      · obtain ⟨ad, rfl, ha, x0, x1⟩ := HA.out.send i (by rw [HLN.out]; exact hin)
        obtain ⟨bd, rfl, hb, y0, y1⟩ := HB.out.send i (by rw [← HN.out, HLN.out]; exact hin)
        rw [(av_at (by rw [HLN.out]; exact hin)).1] at x0
        rw [(av_at (by rw [HLN.out]; exact hin)).2] at x1
        rw [(av_at (by rw [← HN.out, HLN.out]; exact hin)).1] at y0
        rw [(av_at (by rw [← HN.out, HLN.out]; exact hin)).2] at y1
        have hin2 : (i : Int) < (n : Int) := by omega
        have hi0 : (0 : Int) ≤ (i : Int) := by omega
        have hno : (SM.av L i ≠ SM.av M i ∨ SM.sv L i ≠ SM.sv M i) → R = false := fun h => by
          rw [← HR.out]
          refine decide_eq_false (fun e => ?_)
          subst e
          rcases h with h | h <;> exact h rfl
        have HNO := hidd hno
        have hst : (SM.av L i = SM.av M i ∧ SM.sv L i = SM.sv M i) → ∀ j, j < i + 1 → SM.av L j = SM.av M j ∧ SM.sv L j = SM.sv M j := fun h j hj => by
          by_cases e : j = i
          · subst e; exact h
          · exact HS.out j (by omega)
        have HST := hidd hst
        clear hno hst
        generalize SM.av L i = a0 at *
        generalize SM.sv L i = a1 at *
        generalize SM.av M i = b0 at *
        generalize SM.sv M i = b1 at *
        by_cases h0 : a0 = b0
        · by_cases h1 : a1 = b1
          · subst h0 h1
            have hn1 := HST.out ⟨rfl, rfl⟩
            have HN1 := hidd hn1
            clear hn1
            go_wp2_with fail
            go_quiet (fail)
            go_wp2_with fail
            have hg := HG.out
            go_roundg (gk - 1)
            case measure => omega
            case rel => exact ⟨i + 1, _, by omega, by omega, by go_num, HN1.out, by first | rfl | (rw [World.drewN_drewN]; done)⟩
          · have hr := HNO.out (.inr h1)
            subst hr
            subst h0
            have h1' : (a1 == b1) = false := beq_eq_false_iff_ne.2 h1
            clear h1
            go_wp2_with fail
            go_quiet (fail)
            go_wp2_with fail
            go_ret
            exact ⟨by simp, _, by first | rfl | (rw [World.drewN_drewN]; done)⟩
        · have hr := HNO.out (.inl h0)
          subst hr
          have h0' : (a0 == b0) = false := beq_eq_false_iff_ne.2 h0
          clear h0
          go_wp2_with fail
          go_quiet (fail)
          go_wp2_with fail
          go_ret
          exact ⟨by simp, _, by first | rfl | (rw [World.drewN_drewN]; done)⟩
      · have hin2 : ¬ (i : Int) < (n : Int) := by omega
        have hr : R = true := by
          rw [← HR.out]
          refine decide_eq_true (List.ext_getElem HN.out fun j h1 h2 => ?_)
          have := HS.out j (by rw [HLN.out] at h1; omega)
          rw [← (av_at h1).1, ← (av_at h1).2, ← (av_at h2).1, ← (av_at h2).2] at this
          exact Prod.ext this.1 this.2
        subst hr
        go_wp2_with fail
        go_ret
        exact ⟨by simp, _, rfl⟩
  · have hne : ((L.length : Int) != (M.length : Int)) = true := by simp; omega
    have hr : R = false := by
      rw [← HR.out]
      exact decide_eq_false (fun e => hn (by rw [e]))
    subst hr
    clear hn
    go_enter Try.func15, Try.ntmps15
    go_wp2_with fail
    go_ret
    exact ⟨by simp, 0, rfl⟩
set_option maxHeartbeats 2000000 in
theorem equal_any (A B : Option Addr) (L M : List (Int × Int)) (c d : Nat) (hL : L.length ≤ 1000000) (hM : M.length ≤ 1000000) (w : World) (hA : Lie sendV 2 w w.heap.size A L) (hB : Lie sendV 2 w w.heap.size B M) :
    Calls Try.prog 45 #[.slice A L.length c, .slice B M.length d] w fun e w' => e = .returned (.bool (decide (L = M))) ∧ ∃ q, w' = w.drewN q := by
  have HA := hidd hA
  have HB := hidd hB
  obtain ⟨R, hR⟩ : ∃ R, decide (L = M) = R := ⟨_, rfl⟩
  rw [hR]
  have HR := hidd hR
  clear hA hB hR
  by_cases hn : L.length = M.length
  · have HN := hidd hn
    have hn2 : (L.length : Int) = (M.length : Int) := by omega
    obtain ⟨n, hln⟩ : ∃ n, L.length = n := ⟨_, rfl⟩
    have HLN := hidd hln
    rw [← hn, hln]
    rw [hln] at hL
    clear hn hln hn2 hM
    go_enter Try.func45, Try.ntmps45
    go_wp2_with fail
    go_loopg [13] (n + 1) (fun g s wr => ∃ (i q : Nat), i ≤ n ∧ i + g = n + 1 ∧ s = .int .i64 (i : Int) ∧ (∀ j, j < i → SM.av L j = SM.av M j ∧ SM.sv L j = SM.sv M j) ∧ wr = w.drewN q)
    case atStart => exact ⟨0, 0, by omega, by omega, rfl, fun j hj => absurd hj (by omega), rfl⟩
    case round =>
      obtain ⟨i, q, hi, hg, rfl, hs, rfl⟩ := hrel
      have HG := hidd hg
      have HS := hidd hs
      clear hg hs
      by_cases hin : i < n
      · obtain ⟨ad, rfl, ha, x0, x1⟩ := HA.out.send i (by rw [HLN.out]; exact hin)
        obtain ⟨bd, rfl, hb, y0, y1⟩ := HB.out.send i (by rw [← HN.out, HLN.out]; exact hin)
        rw [(av_at (by rw [HLN.out]; exact hin)).1] at x0
        rw [(av_at (by rw [HLN.out]; exact hin)).2] at x1
        rw [(av_at (by rw [← HN.out, HLN.out]; exact hin)).1] at y0
        rw [(av_at (by rw [← HN.out, HLN.out]; exact hin)).2] at y1
        have hin2 : (i : Int) < (n : Int) := by omega
        have hi0 : (0 : Int) ≤ (i : Int) := by omega
        have hno : (SM.av L i ≠ SM.av M i ∨ SM.sv L i ≠ SM.sv M i) → R = false := fun h => by
          rw [← HR.out]
          refine decide_eq_false (fun e => ?_)
          subst e
          rcases h with h | h <;> exact h rfl
        have HNO := hidd hno
        have hst : (SM.av L i = SM.av M i ∧ SM.sv L i = SM.sv M i) → ∀ j, j < i + 1 → SM.av L j = SM.av M j ∧ SM.sv L j = SM.sv M j := fun h j hj => by
          by_cases e : j = i
          · subst e; exact h
          · exact HS.out j (by omega)
        have HST := hidd hst
        clear hno hst
        generalize SM.av L i = a0 at *
        generalize SM.sv L i = a1 at *
        generalize SM.av M i = b0 at *
        generalize SM.sv M i = b1 at *
        by_cases h0 : a0 = b0
        · by_cases h1 : a1 = b1
          · subst h0 h1
            have hn1 := HST.out ⟨rfl, rfl⟩
            have HN1 := hidd hn1
            clear hn1
            go_wp2_with fail
            go_quiet (fail)
            go_wp2_with fail
            have hg := HG.out
            go_roundg (gk - 1)
            case measure => omega
            case rel => exact ⟨i + 1, _, by omega, by omega, by go_num, HN1.out, by first | rfl | (rw [World.drewN_drewN]; done)⟩
          · have hr := HNO.out (.inr h1)
            subst hr
            subst h0
            have h1' : (a1 == b1) = false := beq_eq_false_iff_ne.2 h1
            clear h1
            go_wp2_with fail
            go_quiet (fail)
            go_wp2_with fail
            go_ret
            exact ⟨by simp, _, by first | rfl | (rw [World.drewN_drewN]; done)⟩
        · have hr := HNO.out (.inl h0)
          subst hr
          have h0' : (a0 == b0) = false := beq_eq_false_iff_ne.2 h0
          clear h0
          go_wp2_with fail
          go_quiet (fail)
          go_wp2_with fail
          go_ret
          exact ⟨by simp, _, by first | rfl | (rw [World.drewN_drewN]; done)⟩
      · have hin2 : ¬ (i : Int) < (n : Int) := by omega
        have hr : R = true := by
          rw [← HR.out]
          refine decide_eq_true (List.ext_getElem HN.out fun j h1 h2 => ?_)
          have := HS.out j (by rw [HLN.out] at h1; omega)
          rw [← (av_at h1).1, ← (av_at h1).2, ← (av_at h2).1, ← (av_at h2).2] at this
          exact Prod.ext this.1 this.2
        subst hr
        go_wp2_with fail
        go_ret
        exact ⟨by simp, _, rfl⟩
  · have hne : ((L.length : Int) != (M.length : Int)) = true := by simp; omega
    have hr : R = false := by
      rw [← HR.out]
      exact decide_eq_false (fun e => hn (by rw [e]))
    subst hr
    clear hn
    go_enter Try.func45, Try.ntmps45
    go_wp2_with fail
    go_ret
    exact ⟨by simp, 0, rfl⟩
end Go.Proofs.Ytpgaklfgbioocaa

namespace Go.Proofs.Ytpgaklfgbioocaa
set_option linter.unusedVariables false
open Go.RowKit Go.Proofs.Ytpgaklfgbioocaa.RowK

/-- is each line the only least one somewhere, by rising Bursts. -/
def NrmAt (L : List (Int × Int)) (i : Nat) : Prop :=
  (SM.av L (i - 1) < SM.av L i ∧ SM.sv L i < SM.sv L (i - 1)) ∧ (2 ≤ i → (SM.av L (i - 1) - SM.av L (i - 2)) * (SM.sv L (i - 1) - SM.sv L i) < (SM.av L i - SM.av L (i - 1)) * (SM.sv L (i - 2) - SM.sv L (i - 1)))
def Nrm (L : List (Int × Int)) : Prop := 0 < L.length ∧ ∀ i, 1 ≤ i → i < L.length → NrmAt L i
def LineBox (w : World) (b : Nat) (x y : Int) : Prop := b < w.heap.size ∧ w.cell? ⟨b, 0, none⟩ = some (.int .i64 x) ∧ w.cell? ⟨b, 1, none⟩ = some (.int .i64 y)
theorem LineBox.step {w w' : World} {b : Nat} {x y : Int} (h : LineBox w b x y) (hb : Below w.heap.size w w') : LineBox w' b x y :=
  ⟨Nat.lt_of_lt_of_le h.1 hb.size, (hb.cell (p := ⟨b, 0, none⟩) h.1).trans h.2.1, (hb.cell (p := ⟨b, 1, none⟩) h.1).trans h.2.2⟩
def allMay (L : List (Int × Int)) : Prop := ∀ i, i < L.length → (0 ≤ SM.av L i ∧ SM.av L i ≤ 2000000000) ∧ 0 ≤ SM.sv L i ∧ SM.sv L i ≤ 2000000000
def NrmEnd (L : List (Int × Int)) (w : World) (e : Ending) (w' : World) : Prop := ∃ R, e = .returned (.bool R) ∧ (R = true ↔ Nrm L) ∧ Below w.heap.size w w'
set_option maxRecDepth 100000 in
set_option maxHeartbeats 4000000 in
theorem normal_any (A : Option Addr) (L : List (Int × Int)) (c : Nat) (hL : L.length ≤ 1000000) (hm : allMay L) (w : World) (hA : Lie sendV 2 w w.heap.size A L) :
    Calls Try.prog 20 #[.slice A L.length c] w (NrmEnd L w) := by
  have HA := hidd hA
  have HM := hidd hm
  clear hA hm
  go_enter Try.func20, Try.ntmps20
  go_wp2_with fail
  go_loopg [3] (L.length + 2) (fun g s3 wr => ∃ i : Nat, 1 ≤ i ∧ i ≤ L.length + 1 ∧ i + g = L.length + 3 ∧ s3 = .int .i64 (i : Int) ∧ (∀ j, 1 ≤ j → j < i → j < L.length → NrmAt L j) ∧ Below w.heap.size w wr)
  case atStart => exact ⟨1, by omega, by omega, by omega, rfl, fun j h1 h2 => absurd h2 (by omega), Below.refl _ _⟩
  case round =>
    obtain ⟨i, hi1, hi2, hg, rfl, hs, hB⟩ := hrel
    have HG := hidd hg
    have HS := hidd hs
    have HB := hidd hB
    clear hg hs hB
    by_cases hin : i < L.length
    · have hin2 : (i : Int) < (L.length : Int) := by omega
      obtain ⟨j, rfl⟩ : ∃ j, i = j + 1 := ⟨i - 1, by omega⟩
      obtain ⟨ad, rfl, ha, x0, x1⟩ := (HA.out.below HB.out).send (j + 1) hin
      obtain ⟨ad', e', ha', y0, y1⟩ := (HA.out.below HB.out).send j (by omega)
      obtain rfl : ad = ad' := by injection e'
      rw [(av_at hin).1] at x0
      rw [(av_at hin).2] at x1
      rw [(av_at (show j < L.length by omega)).1] at y0
      rw [(av_at (show j < L.length by omega)).2] at y1
      have hj1 : ((j + 1 : Nat) : Int) - 1 = (j : Int) := by omega
      have hj2 : IntKind.i64.wrap (((j + 1 : Nat) : Int) - 1) = (j : Int) := by rw [IntWalk.i64_in _ (by omega)]; omega
      have hj0 : (0 : Int) ≤ (j : Int) := by omega
      have hj3 : (j : Int) < (L.length : Int) := by omega
      have hj4 : (0 : Int) ≤ ((j + 1 : Nat) : Int) := by omega
      obtain ⟨⟨b00, b01⟩, b02, b03⟩ := HM.out (j + 1) hin
      obtain ⟨⟨a00, a01⟩, a02, a03⟩ := HM.out j (by omega)
      clear e'
      go_wp2_with fail
      go_cut [4, 5] (fun s4 s5 wx => ∃ p q, s4 = .pointer (some ⟨p, 0, none⟩) ∧ s5 = .pointer (some ⟨q, 0, none⟩) ∧ LineBox wx p (SM.av L j) (SM.sv L j) ∧ LineBox wx q (SM.av L (j + 1)) (SM.sv L (j + 1)) ∧ Below w.heap.size w wx)
      case first =>
        generalize SM.av L j = aa at *
        generalize SM.sv L j = ar at *
        generalize SM.av L (j + 1) = ba at *
        generalize SM.sv L (j + 1) = br at *
        have hBs := HB.out.size
        have hq0 : (ad.add (j * 2)).block < wr.heap.size := by rw [block_of_add] at *; exact ha'
        have hq1 : (ad.add ((j + 1) * 2)).block < wr.heap.size := by rw [block_of_add] at *; exact ha
        have hBB := HB.out
        go_region
        all_goals go_wp2_with fail
        all_goals go_meet
        all_goals exact ⟨_, _, rfl, rfl, ⟨by first | (simp; done) | (simp; omega), by simp [go_sem], by simp [go_sem]⟩, ⟨by first | (simp; done) | (simp; omega), by simp [go_sem], by simp [go_sem]⟩, by (repeat' (first | (with_reducible exact Below.refl _ _) | (with_reducible assumption) | (with_reducible apply Below.setCell) | (with_reducible apply Below.alloc) | (with_reducible apply Below.drew) | (with_reducible apply below_drewN) | (with_reducible refine Below.trans ?_ (Below.mono (by assumption) ?_)) | omega | (simp; done) | (simp; omega)))⟩
      case rest =>
        obtain ⟨p, q, rfl, rfl, ⟨hp, p0, p1⟩, ⟨hq, q0, q1⟩, hB2⟩ := hcut
        have HB2 := hidd hB2
        have hno : ¬ NrmAt L (j + 1) → ¬ Nrm L := fun h hn => h (hn.2 (j + 1) (by omega) hin)
        have HNO := hidd hno
        have hat : NrmAt L (j + 1) ↔ (SM.av L j < SM.av L (j + 1) ∧ SM.sv L (j + 1) < SM.sv L j) ∧ (1 ≤ j → (SM.av L j - SM.av L (j - 1)) * (SM.sv L j - SM.sv L (j + 1)) < (SM.av L (j + 1) - SM.av L j) * (SM.sv L (j - 1) - SM.sv L j)) := by
          unfold NrmAt
          rw [Nat.add_sub_cancel, show j + 1 - 2 = j - 1 by omega]
          constructor
          · exact fun h => ⟨h.1, fun h1 => h.2 (by omega)⟩
          · exact fun h => ⟨h.1, fun h1 => h.2 (by omega)⟩
        have HAT := hidd hat
        clear hB2 hno hat x0 x1 y0 y1 hj1 hj2
        by_cases h1 : SM.av L (j + 1) ≤ SM.av L j
        · have hnn := HNO.out (fun h => by have := (HAT.out.1 h).1.1; omega)
          have HNN := hidd hnn
          clear hnn
          generalize SM.av L j = aa at *
          generalize SM.av L (j + 1) = ba at *
          go_wp2_with fail
          go_ret
          exact ⟨false, rfl, ⟨fun h => absurd h Bool.false_ne_true, fun h => absurd h HNN.out⟩, HB2.out⟩
        · by_cases h2 : SM.sv L j ≤ SM.sv L (j + 1)
          · have hnn := HNO.out (fun h => by have := (HAT.out.1 h).1.2; omega)
            have HNN := hidd hnn
            clear hnn
            have h2d : decide (SM.sv L j ≤ SM.sv L (j + 1)) = true := decide_eq_true h2
            go_wp2_with fail
            go_ret
            exact ⟨false, rfl, ⟨fun h => absurd h Bool.false_ne_true, fun h => absurd h HNN.out⟩, HB2.out⟩
          · by_cases hj : j = 0
            · subst hj
              have hok : NrmAt L (0 + 1) := HAT.out.2 ⟨⟨by omega, by omega⟩, fun h => absurd h (by omega)⟩
              have HOK := hidd hok
              clear hok
              go_wp2_with fail
              have hg := HG.out
              go_roundg (gk - 1)
              case measure => omega
              case rel => exact ⟨0 + 1 + 1, by omega, by omega, by omega, by go_num, fun k k1 k2 k3 => by
                obtain rfl : k = 0 + 1 := by omega
                exact HOK.out, HB2.out⟩
            · obtain ⟨m, rfl⟩ : ∃ m, j = m + 1 := ⟨j - 1, by omega⟩
              obtain ⟨zd, e', hz, z0, z1⟩ := (HA.out.below HB2.out).send m (by omega)
              obtain rfl : ad = zd := by injection e'
              rw [(av_at (show m < L.length by omega)).1] at z0
              rw [(av_at (show m < L.length by omega)).2] at z1
              obtain ⟨⟨c00, c01⟩, c02, c03⟩ := HM.out m (by omega)
              have hok : NrmAt L (m + 1 + 1) ↔ ¬ ((SM.av L (m + 1 + 1) - SM.av L (m + 1)) * (SM.sv L m - SM.sv L (m + 1)) ≤ (SM.av L (m + 1) - SM.av L m) * (SM.sv L (m + 1) - SM.sv L (m + 1 + 1))) := by
                rw [HAT.out, Nat.add_sub_cancel]
                constructor
                · intro h; have := h.2 (by omega); omega
                · intro h; exact ⟨⟨by omega, by omega⟩, fun _ => by omega⟩
              have HOK := hidd hok
              have hi1 : (1 : Int) < ((m + 1 + 1 : Nat) : Int) := by omega
              have hj2 : IntKind.i64.wrap (((m + 1 + 1 : Nat) : Int) - 2) = (m : Int) := by rw [IntWalk.i64_in _ (by omega)]; omega
              have hj5 : (0 : Int) ≤ (m : Int) := by omega
              have hj6 : (m : Int) < (L.length : Int) := by omega
              clear e' hok
              generalize SM.av L (m + 1 + 1) = ba at *
              generalize SM.sv L (m + 1 + 1) = br at *
              generalize SM.av L (m + 1) = aa at *
              generalize SM.sv L (m + 1) = ar at *
              generalize SM.av L m = za at *
              generalize SM.sv L m = zr at *
              have f1 : wrap64 ((aa - za) * (ar - br)) = (aa - za) * (ar - br) := by
                have := prod_bd (x := aa - za) (y := ar - br) (by omega) (by omega) (by omega) (by omega)
                have e1 : IntKind.i64.wrap ((aa - za) * (ar - br)) = (aa - za) * (ar - br) := IntWalk.i64_in _ (by omega)
                conv => rhs; rw [← e1]
                simp [IntKind.wrap_i64, wrap64]
              have f2 : wrap64 ((ba - aa) * (zr - ar)) = (ba - aa) * (zr - ar) := by
                by_cases hz : zr - ar ≤ 2000000000
                · have := prod_bd (x := ba - aa) (y := zr - ar) (by omega) (by omega) (by omega) (by omega)
                  have e1 : IntKind.i64.wrap ((ba - aa) * (zr - ar)) = (ba - aa) * (zr - ar) := IntWalk.i64_in _ (by omega)
                  conv => rhs; rw [← e1]
                  simp [IntKind.wrap_i64, wrap64]
                · omega
              have F1 := hidd f1
              have F2 := hidd f2
              have hBs := HB2.out.size
              have hBB := HB2.out
              clear f1 f2
              go_wp2_with fail
              · rename_i hle
                rw [F1.out, F2.out] at hle
                have hnn := HNO.out (fun h => absurd (HOK.out.1 h) (by omega))
                have HNN := hidd hnn
                clear hnn
                go_ret
                exact ⟨false, rfl, ⟨fun h => absurd h Bool.false_ne_true, fun h => absurd h HNN.out⟩, by (repeat' (first | (with_reducible exact Below.refl _ _) | (with_reducible assumption) | (with_reducible apply Below.setCell) | (with_reducible apply Below.alloc) | (with_reducible apply Below.drew) | (with_reducible apply below_drewN) | (with_reducible refine Below.trans ?_ (Below.mono (by assumption) ?_)) | omega | (simp; done) | (simp; omega)))⟩
              · rename_i hlt
                rw [F1.out, F2.out] at hlt
                have hnn := HOK.out.2 hlt
                have HNN := hidd hnn
                clear hnn
                have hg := HG.out
                go_roundg (gk - 1)
                case measure => omega
                case rel => exact ⟨m + 1 + 1 + 1, by omega, by omega, by omega, by go_num, fun k k1 k2 k3 => by
                  by_cases hk : k = m + 1 + 1
                  · subst hk; exact HNN.out
                  · exact HS.out k k1 (by omega) k3, by (repeat' (first | (with_reducible exact Below.refl _ _) | (with_reducible assumption) | (with_reducible apply Below.setCell) | (with_reducible apply Below.alloc) | (with_reducible apply Below.drew) | (with_reducible apply below_drewN) | (with_reducible refine Below.trans ?_ (Below.mono (by assumption) ?_)) | omega | (simp; done) | (simp; omega)))⟩
    · have hin2 : ¬ (i : Int) < (L.length : Int) := by omega
      have hall : ∀ j, 1 ≤ j → j < L.length → NrmAt L j := fun j h1 h2 => HS.out j h1 (by omega) h2
      have HALL := hidd hall
      clear hall
      by_cases h0 : L.length = 0
      · have h01 : ¬ (0 : Int) < (L.length : Int) := by omega
        have h02 : ¬ 0 < L.length := by omega
        have HN : Hid (¬ Nrm L) := hidd (fun h => h02 h.1)
        go_wp2_with fail
        go_ret
        exact ⟨false, by first | rfl | simp [h0], ⟨fun h => absurd h Bool.false_ne_true, fun h => absurd h HN.out⟩, HB.out⟩
      · have h01 : (0 : Int) < (L.length : Int) := by omega
        have h02 : 0 < L.length := by omega
        have HN : Hid (Nrm L) := hidd ⟨h02, HALL.out⟩
        go_wp2_with fail
        go_ret
        exact ⟨true, by first | rfl | simp [h02], ⟨fun _ => HN.out, fun _ => rfl⟩, HB.out⟩
end Go.Proofs.Ytpgaklfgbioocaa

namespace Go.Proofs.Ytpgaklfgbioocaa
set_option linter.unusedVariables false
namespace CM
open SM
/-- of the list's first n lines and one more: those that stay. -/
def keep (L : List (Int × Int)) (x : Int × Int) : Nat → List (Int × Int)
  | 0 => [x]
  | n + 1 => if sv L n ≤ x.2 then L.take (n + 1)
    else if n = 0 ∨ (av L n - av L (n - 1)) * (sv L n - x.2) < (x.1 - av L n) * (sv L (n - 1) - sv L n) then L.take (n + 1) ++ [x]
    else keep L x n
def hull (l : List (Int × Int)) : List (Int × Int) := l.foldl (fun c x => keep c x c.length) []
theorem hull_snoc (l : List (Int × Int)) (x : Int × Int) : hull (l ++ [x]) = keep (hull l) x (hull l).length := by simp [hull]

theorem av_take {L : List (Int × Int)} {n i : Nat} (h : i < n) : av (L.take n) i = av L i ∧ sv (L.take n) i = sv L i := by
  unfold av sv
  rw [List.getD_eq_getElem?_getD, List.getD_eq_getElem?_getD, List.getElem?_take_of_lt h]
  exact ⟨rfl, rfl⟩
theorem nrm_take {L : List (Int × Int)} {n i : Nat} (h : i < n) : NrmAt (L.take n) i ↔ NrmAt L i := by
  unfold NrmAt
  rw [(av_take (L := L) h).1, (av_take (L := L) h).2, (av_take (L := L) (show i - 1 < n by omega)).1, (av_take (L := L) (show i - 1 < n by omega)).2, (av_take (L := L) (show i - 2 < n by omega)).1, (av_take (L := L) (show i - 2 < n by omega)).2]
theorem nrm_app {L : List (Int × Int)} {x : Int × Int} {i : Nat} (h : i < L.length) : NrmAt (L ++ [x]) i ↔ NrmAt L i := by
  unfold NrmAt
  rw [(av_app (L := L) h).1, (av_app (L := L) h).2, (av_app (L := L) (show i - 1 < L.length by omega)).1, (av_app (L := L) (show i - 1 < L.length by omega)).2, (av_app (L := L) (show i - 2 < L.length by omega)).1, (av_app (L := L) (show i - 2 < L.length by omega)).2]
theorem take_len {L : List (Int × Int)} {n : Nat} (h : n ≤ L.length) : (L.take n).length = n := by simp; omega
/-- the next one behind the first n + 1. -/
theorem nrm_next {L : List (Int × Int)} {x : Int × Int} {n : Nat} (hn : n < L.length) : NrmAt (L.take (n + 1) ++ [x]) (n + 1) ↔
    (av L n < x.1 ∧ x.2 < sv L n) ∧ (1 ≤ n → (av L n - av L (n - 1)) * (sv L n - x.2) < (x.1 - av L n) * (sv L (n - 1) - sv L n)) := by
  have hl : (L.take (n + 1)).length = n + 1 := take_len (by omega)
  have e0 := av_last (L := L.take (n + 1)) (x := x)
  rw [hl] at e0
  have e1 := av_app (L := L.take (n + 1)) (x := x) (i := n) (by omega)
  have e2 := av_app (L := L.take (n + 1)) (x := x) (i := n - 1) (by omega)
  rw [(av_take (L := L) (show n < n + 1 by omega)).1, (av_take (L := L) (show n < n + 1 by omega)).2] at e1
  rw [(av_take (L := L) (show n - 1 < n + 1 by omega)).1, (av_take (L := L) (show n - 1 < n + 1 by omega)).2] at e2
  unfold NrmAt
  rw [show n + 1 - 1 = n by omega, show n + 1 - 2 = n - 1 by omega, e0.1, e0.2, e1.1, e1.2, e2.1, e2.2]
  constructor
  · exact fun h => ⟨h.1, fun h1 => h.2 (by omega)⟩
  · exact fun h => ⟨h.1, fun h1 => h.2 (by omega)⟩
def AllN (L : List (Int × Int)) : Prop := ∀ i, 1 ≤ i → i < L.length → NrmAt L i
theorem AllN.take {L : List (Int × Int)} (h : AllN L) (n : Nat) : AllN (L.take n) := fun i h1 h2 => by
  have h3 : i < n ∧ i < L.length := by simp at h2; omega
  exact (nrm_take h3.1).2 (h i h1 h3.2)
/-- by Burst, then by Rate. -/
def le (a b : Int × Int) : Bool := decide (a.1 < b.1 ∨ a.1 = b.1 ∧ a.2 ≤ b.2)
theorem keep_nrm {L : List (Int × Int)} (x : Int × Int) (h : AllN L) (hle : ∀ y ∈ L, le y x = true) : ∀ n, n ≤ L.length → (n = 0 → L = []) → AllN (keep L x n) ∧ keep L x n ≠ []
  | 0, _, h0 => by
    refine ⟨fun i h1 h2 => ?_, by simp [keep]⟩
    simp [keep] at h2; omega
  | n + 1, hn, _ => by
    have hm := hle L[n] (List.getElem_mem (by omega))
    have ha : av L n = L[n].1 ∧ sv L n = L[n].2 := by
      unfold av sv; rw [List.getD_eq_getElem?_getD, List.getElem?_eq_getElem (show n < L.length by omega)]; exact ⟨rfl, rfl⟩
    unfold keep
    by_cases h1 : sv L n ≤ x.2
    · rw [if_pos h1]
      refine ⟨h.take _, fun e => ?_⟩
      have := take_len (L := L) hn
      rw [e] at this; simp at this
    · rw [if_neg h1]
      have hlt : av L n < x.1 := by
        have := of_decide_eq_true hm
        have e1 := ha.1
        have e2 := ha.2
        omega
      by_cases h2 : n = 0 ∨ (av L n - av L (n - 1)) * (sv L n - x.2) < (x.1 - av L n) * (sv L (n - 1) - sv L n)
      · rw [if_pos h2]
        refine ⟨fun i i1 i2 => ?_, by simp⟩
        rw [List.length_append, take_len hn] at i2
        simp at i2
        by_cases hi : i < n + 1
        · rw [nrm_app (by rw [take_len hn]; exact hi)]
          exact (nrm_take hi).2 (h i i1 (by omega))
        · obtain rfl : i = n + 1 := by omega
          rw [nrm_next (by omega)]
          exact ⟨⟨hlt, by omega⟩, fun h3 => h2.resolve_left (by omega)⟩
      · rw [if_neg h2]
        exact keep_nrm x h hle n (by omega) (fun h3 => absurd (Or.inl h3) h2)
theorem keep_mem {L : List (Int × Int)} (x : Int × Int) : ∀ n, ∀ y ∈ keep L x n, y ∈ L ∨ y = x
  | 0, y, hy => by simp [keep] at hy; exact .inr hy
  | n + 1, y, hy => by
    unfold keep at hy
    split at hy
    · exact .inl (List.mem_of_mem_take hy)
    · split at hy
      · rcases List.mem_append.1 hy with h | h
        · exact .inl (List.mem_of_mem_take h)
        · exact .inr (by simpa using h)
      · exact keep_mem x n y hy
theorem keep_len {L : List (Int × Int)} (x : Int × Int) : ∀ n, (keep L x n).length ≤ n + 1
  | 0 => by simp [keep]
  | n + 1 => by
    unfold keep
    split
    · simp; omega
    · split
      · simp; omega
      · have := keep_len (L := L) x n; omega
theorem hull_mem : ∀ (l : List (Int × Int)), ∀ y ∈ hull l, y ∈ l := by
  intro l
  have : ∀ (l c : List (Int × Int)), ∀ y ∈ l.foldl (fun c x => keep c x c.length) c, y ∈ l ∨ y ∈ c := by
    intro l
    induction l with
    | nil => intro c y hy; exact .inr hy
    | cons x l ih =>
      intro c y hy
      rcases ih _ y hy with h | h
      · exact .inl (by simp [h])
      · rcases keep_mem x _ y h with h | h
        · exact .inr h
        · exact .inl (by simp [h])
  intro y hy
  rcases this l [] y hy with h | h
  · exact h
  · simp at h
theorem hull_len (l : List (Int × Int)) : (hull l).length ≤ l.length := by
  have : ∀ (l c : List (Int × Int)), (l.foldl (fun c x => keep c x c.length) c).length ≤ l.length + c.length := by
    intro l
    induction l with
    | nil => intro c; simp
    | cons x l ih =>
      intro c
      have h1 := ih (keep c x c.length)
      have h2 := keep_len (L := c) x c.length
      simp only [List.foldl_cons, List.length_cons]
      omega
  have h := this l []
  simpa [hull] using h
/-- rising lines: what stays is a curve's. -/
theorem hull_nrm (l : List (Int × Int)) (hs : l.Pairwise (fun a b => le a b = true)) (h0 : l ≠ []) : Nrm (hull l) := by
  have : ∀ (l c : List (Int × Int)), l.Pairwise (fun a b => le a b = true) → (∀ y ∈ c, ∀ x ∈ l, le y x = true) → AllN c → (l ≠ [] ∨ c ≠ []) → AllN (l.foldl (fun c x => keep c x c.length) c) ∧ l.foldl (fun c x => keep c x c.length) c ≠ [] := by
    intro l
    induction l with
    | nil => intro c _ _ h1 h2; exact ⟨h1, by simpa using h2⟩
    | cons x l ih =>
      intro c hp hc h1 _
      obtain ⟨k1, k2⟩ := keep_nrm x h1 (fun y hy => hc y hy x (by simp)) c.length (Nat.le_refl _) (fun h => List.eq_nil_of_length_eq_zero h)
      rw [List.pairwise_cons] at hp
      exact ih _ hp.2 (fun y hy z hz => by
        rcases keep_mem x _ y hy with h | rfl
        · exact hc y h z (by simp [hz])
        · exact hp.1 z hz) k1 (.inr k2)
  obtain ⟨h1, h2⟩ := this l [] hs (by simp) (fun i _ h => by simp at h) (.inl h0)
  exact ⟨List.length_pos_iff.2 h2, h1⟩
theorem keep_all {L : List (Int × Int)} {x : Int × Int} (h : NrmAt (L ++ [x]) L.length) (h0 : 0 < L.length) : keep L x L.length = L ++ [x] := by
  obtain ⟨n, hn⟩ : ∃ n, L.length = n + 1 := ⟨L.length - 1, by omega⟩
  have ht : L.take (n + 1) = L := List.take_of_length_le (by omega)
  have hx := nrm_next (L := L) (x := x) (n := n) (by omega)
  rw [ht] at hx
  rw [hn] at h ⊢
  have hy := hx.1 h
  unfold keep
  rw [if_neg (by omega), if_pos, ht]
  by_cases h1 : n = 0
  · exact .inl h1
  · exact .inr (hy.2 (by omega))
theorem hull_take {L : List (Int × Int)} (h : AllN L) : ∀ n, n ≤ L.length → hull (L.take n) = L.take n
  | 0, _ => by simp [hull]
  | n + 1, hn => by
    have e : L.take (n + 1) = L.take n ++ [L[n]] := by rw [List.take_add_one, List.getElem?_eq_getElem (show n < L.length by omega)]; rfl
    rw [e, hull_snoc, hull_take h n (by omega)]
    have hl : (L.take n).length = n := take_len (by omega)
    by_cases h0 : n = 0
    · subst h0; simp [keep]
    · refine keep_all ?_ (by omega)
      rw [← e, hl]
      exact (nrm_take (by omega)).2 (h n (by omega) (by omega))
theorem hull_self {L : List (Int × Int)} (h : Nrm L) : hull L = L := by
  have := hull_take (L := L) h.2 L.length (Nat.le_refl _)
  rwa [List.take_length] at this
def sortL (l : List (Int × Int)) : List (Int × Int) := l.mergeSort le
theorem le_trans (a b c : Int × Int) (h1 : le a b = true) (h2 : le b c = true) : le a c = true := by
  have := of_decide_eq_true h1
  have := of_decide_eq_true h2
  exact decide_eq_true (by omega)
theorem le_total (a b : Int × Int) : (le a b || le b a) = true := by
  rw [Bool.or_eq_true]
  by_cases h : a.1 < b.1 ∨ a.1 = b.1 ∧ a.2 ≤ b.2
  · exact .inl (decide_eq_true h)
  · exact .inr (decide_eq_true (by omega))
theorem sortL_perm (l : List (Int × Int)) : (sortL l).Perm l := List.mergeSort_perm l le
theorem sortL_up (l : List (Int × Int)) : (sortL l).Pairwise (fun a b => le a b = true) := List.pairwise_mergeSort le_trans le_total l
def low (l : List (Int × Int)) : List (Int × Int) := hull (sortL l)
theorem low_mem {l : List (Int × Int)} {y : Int × Int} (h : y ∈ low l) : y ∈ l := (sortL_perm l).mem_iff.1 (hull_mem _ y h)
theorem low_len (l : List (Int × Int)) : (low l).length ≤ l.length := Nat.le_trans (hull_len _) (Nat.le_of_eq (sortL_perm l).length_eq)
theorem low_nrm {l : List (Int × Int)} (h : l ≠ []) : Nrm (low l) := hull_nrm _ (sortL_up l) (fun e => h (by have := (sortL_perm l).length_eq; rw [e] at this; exact List.eq_nil_of_length_eq_zero this.symm))
theorem nrm_up {L : List (Int × Int)} (h : Nrm L) : L.Pairwise (fun a b => le a b = true) := by
  rw [List.pairwise_iff_getElem]
  intro i j hi hj hij
  have key : ∀ k, i + 1 + k < L.length → SM.av L i < SM.av L (i + 1 + k) := by
    intro k
    induction k with
    | zero => intro hk; have := (h.2 (i + 1) (by omega) hk).1.1; rwa [Nat.add_sub_cancel] at this
    | succ k ih =>
      intro hk
      have h1 := ih (by omega)
      have h2 := (h.2 (i + 1 + k + 1) (by omega) hk).1.1
      rw [Nat.add_sub_cancel] at h2
      exact Int.lt_trans h1 h2
  have h3 := key (j - i - 1) (by omega)
  rw [show i + 1 + (j - i - 1) = j by omega] at h3
  unfold SM.av at h3
  rw [List.getD_eq_getElem?_getD, List.getD_eq_getElem?_getD, List.getElem?_eq_getElem hi, List.getElem?_eq_getElem hj] at h3
  exact decide_eq_true (.inl h3)
theorem low_self {L : List (Int × Int)} (h : Nrm L) : low L = L := by
  unfold low sortL
  rw [List.mergeSort_of_pairwise (nrm_up h), hull_self h]
theorem low_iff {L : List (Int × Int)} : (low L = L ∧ L ≠ []) ↔ Nrm L := by
  constructor
  · rintro ⟨h, h0⟩; rw [← h]; exact low_nrm h0
  · intro h; exact ⟨low_self h, fun e => by have := h.1; rw [e] at this; simp at this⟩
end CM
end Go.Proofs.Ytpgaklfgbioocaa

namespace Go.Proofs.Ytpgaklfgbioocaa
set_option linter.unusedVariables false
namespace CM
open SM
def val (x : Int × Int) (N D : Int) : Int := x.1 * D + x.2 * N
theorem pop_dom {z a x : Int × Int} {N D : Int} (h1 : z.1 < a.1) (h2 : a.2 < z.2) (h3 : a.1 < x.1) (h4 : x.2 < a.2) (hN : 0 ≤ N) (h : ¬ (a.1 - z.1) * (a.2 - x.2) < (x.1 - a.1) * (z.2 - a.2)) : val z N D ≤ val a N D ∨ val x N D ≤ val a N D := by
  by_cases g1 : val z N D ≤ val a N D
  · exact .inl g1
  by_cases g2 : val x N D ≤ val a N D
  · exact .inr g2
  exfalso
  unfold val at g1 g2
  have e1 : (a.1 - z.1) * D < (z.2 - a.2) * N := by rw [Int.sub_mul, Int.sub_mul]; omega
  have e2 : (a.2 - x.2) * N < (x.1 - a.1) * D := by rw [Int.sub_mul, Int.sub_mul]; omega
  have hp : 0 < a.1 - z.1 := by omega
  have hr : 0 < x.1 - a.1 := by omega
  generalize a.1 - z.1 = p at *
  generalize z.2 - a.2 = q at *
  generalize x.1 - a.1 = r at *
  generalize a.2 - x.2 = s at *
  have f1 := Int.mul_lt_mul_of_pos_left e1 hr
  have f2 := Int.mul_lt_mul_of_pos_left e2 hp
  have f3 : r * q * N ≤ p * s * N := Int.mul_le_mul_of_nonneg_right (by omega) hN
  rw [← Int.mul_assoc r q N, Int.mul_left_comm] at f1
  rw [← Int.mul_assoc p s N] at f2
  omega
theorem val_mono {a x : Int × Int} {N D : Int} (h1 : a.1 ≤ x.1) (h2 : a.2 ≤ x.2) (hN : 0 ≤ N) (hD : 0 ≤ D) : val a N D ≤ val x N D := by
  unfold val
  have := Int.mul_le_mul_of_nonneg_right h1 hD
  have := Int.mul_le_mul_of_nonneg_right h2 hN
  omega
theorem at_get {L : List (Int × Int)} {n : Nat} (h : n < L.length) : av L n = L[n].1 ∧ sv L n = L[n].2 := by
  unfold av sv; rw [List.getD_eq_getElem?_getD, List.getElem?_eq_getElem h]; exact ⟨rfl, rfl⟩
theorem keep_dom {L : List (Int × Int)} {x : Int × Int} (h : AllN L) (hle : ∀ y ∈ L, le y x = true) {N D : Int} (hN : 0 ≤ N) (hD : 0 ≤ D) : ∀ n, n ≤ L.length → ∀ y, (y ∈ L.take n ∨ y = x) → ∃ y' ∈ keep L x n, val y' N D ≤ val y N D
  | 0, _, y, hy => by
    rcases hy with hy | rfl
    · simp at hy
    · exact ⟨y, by simp [keep], Int.le_refl _⟩
  | n + 1, hn, y, hy => by
    have hm := of_decide_eq_true (hle L[n] (List.getElem_mem (by omega)))
    obtain ⟨e1, e2⟩ := at_get (L := L) (n := n) (by omega)
    have hin : L[n] ∈ L.take (n + 1) := by rw [List.mem_take_iff_getElem]; exact ⟨n, by omega, rfl⟩
    unfold keep
    by_cases h1 : sv L n ≤ x.2
    · rw [if_pos h1]
      rcases hy with hy | rfl
      · exact ⟨y, hy, Int.le_refl _⟩
      · exact ⟨L[n], hin, val_mono (by omega) (by omega) hN hD⟩
    · rw [if_neg h1]
      by_cases h2 : n = 0 ∨ (av L n - av L (n - 1)) * (sv L n - x.2) < (x.1 - av L n) * (sv L (n - 1) - sv L n)
      · rw [if_pos h2]
        refine ⟨y, ?_, Int.le_refl _⟩
        rcases hy with hy | rfl
        · exact List.mem_append_left _ hy
        · simp
      · rw [if_neg h2]
        rcases hy with hy | rfl
        · rw [List.take_add_one, List.mem_append] at hy
          rcases hy with hy | hy
          · exact keep_dom h hle hN hD n (by omega) y (.inl hy)
          · rw [List.getElem?_eq_getElem (show n < L.length by omega)] at hy
            have hy : y = L[n] := by simpa using hy
            subst hy
            have hn1 : n ≠ 0 := fun e => h2 (.inl e)
            obtain ⟨m, rfl⟩ : ∃ m, n = m + 1 := ⟨n - 1, by omega⟩
            have hnn := (h (m + 1) (by omega) (by omega)).1
            rw [Nat.add_sub_cancel] at hnn h2
            obtain ⟨d1, d2⟩ := at_get (L := L) (n := m) (by omega)
            have h3 : ¬ (L[m + 1].1 - L[m].1) * (L[m + 1].2 - x.2) < (x.1 - L[m + 1].1) * (L[m].2 - L[m + 1].2) := by
              rw [← e1, ← e2, ← d1, ← d2]; exact fun g => h2 (.inr g)
            rcases pop_dom (z := L[m]) (a := L[m + 1]) (x := x) (N := N) (D := D) (by omega) (by omega) (by omega) (by omega) hN h3 with g | g
            · obtain ⟨y', a1, a2⟩ := keep_dom h hle hN hD (m + 1) (by omega) L[m] (.inl (by rw [List.mem_take_iff_getElem]; exact ⟨m, by omega, rfl⟩))
              exact ⟨y', a1, Int.le_trans a2 g⟩
            · obtain ⟨y', a1, a2⟩ := keep_dom h hle hN hD (m + 1) (by omega) x (.inr rfl)
              exact ⟨y', a1, Int.le_trans a2 g⟩
        · exact keep_dom h hle hN hD n (by omega) y (.inr rfl)
theorem hull_dom (l : List (Int × Int)) (hs : l.Pairwise (fun a b => le a b = true)) {N D : Int} (hN : 0 ≤ N) (hD : 0 ≤ D) : ∀ x ∈ l, ∃ y ∈ hull l, val y N D ≤ val x N D := by
  have : ∀ (l c : List (Int × Int)), l.Pairwise (fun a b => le a b = true) → (∀ y ∈ c, ∀ x ∈ l, le y x = true) → AllN c → ∀ x, (x ∈ l ∨ x ∈ c) → ∃ y ∈ l.foldl (fun c x => keep c x c.length) c, val y N D ≤ val x N D := by
    intro l
    induction l with
    | nil => intro c _ _ _ x hx; exact ⟨x, by simpa using hx, Int.le_refl _⟩
    | cons a l ih =>
      intro c hp hc h1 x hx
      have hca : ∀ y ∈ c, le y a = true := fun y hy => hc y hy a (by simp)
      obtain ⟨k1, _⟩ := keep_nrm a h1 hca c.length (Nat.le_refl _) (fun h => List.eq_nil_of_length_eq_zero h)
      rw [List.pairwise_cons] at hp
      have hI := ih (keep c a c.length) hp.2 (fun y hy z hz => by
        rcases keep_mem a _ y hy with h | rfl
        · exact hc y h z (by simp [hz])
        · exact hp.1 z hz) k1
      have hk : ∀ y, (y ∈ c ∨ y = a) → ∃ y' ∈ keep c a c.length, val y' N D ≤ val y N D := fun y hy => keep_dom h1 hca hN hD c.length (Nat.le_refl _) y (by rw [List.take_length]; exact hy)
      have hgo : (x ∈ c ∨ x = a) → ∃ y ∈ l.foldl (fun c x => keep c x c.length) (keep c a c.length), val y N D ≤ val x N D := fun hx => by
        obtain ⟨y', a1, a2⟩ := hk x hx
        obtain ⟨y, b1, b2⟩ := hI y' (.inr a1)
        exact ⟨y, b1, Int.le_trans b2 a2⟩
      rcases hx with hx | hx
      · rcases List.mem_cons.1 hx with rfl | hx
        · exact hgo (.inr rfl)
        · exact hI x (.inl hx)
      · exact hgo (.inl hx)
  intro x hx
  exact this l [] hs (by simp) (fun i _ h => by simp at h) x (.inl hx)
theorem low_dom {l : List (Int × Int)} {N D : Int} (hN : 0 ≤ N) (hD : 0 ≤ D) {x : Int × Int} (hx : x ∈ l) : ∃ y ∈ low l, val y N D ≤ val x N D :=
  hull_dom _ (sortL_up l) hN hD x ((sortL_perm l).mem_iff.2 hx)
/-- the least of all at that time. -/
def IsMin (L : List (Int × Int)) (N D v : Int) : Prop := (∃ x ∈ L, val x N D = v) ∧ ∀ x ∈ L, v ≤ val x N D
theorem IsMin.same {L : List (Int × Int)} {N D u v : Int} (h : IsMin L N D u) (g : IsMin L N D v) : u = v := by
  obtain ⟨⟨x, hx, ex⟩, h2⟩ := h
  obtain ⟨⟨y, hy, ey⟩, g2⟩ := g
  have := h2 y hy
  have := g2 x hx
  omega
theorem low_min {l : List (Int × Int)} {N D v : Int} (hN : 0 ≤ N) (hD : 0 ≤ D) : IsMin (low l) N D v ↔ IsMin l N D v := by
  constructor
  · rintro ⟨⟨x, hx, e⟩, h2⟩
    refine ⟨⟨x, low_mem hx, e⟩, fun y hy => ?_⟩
    obtain ⟨z, hz, hzy⟩ := low_dom hN hD hy
    have := h2 z hz
    omega
  · rintro ⟨⟨x, hx, e⟩, h2⟩
    obtain ⟨z, hz, hzx⟩ := low_dom hN hD hx
    have := h2 z (low_mem hz)
    exact ⟨⟨z, hz, by omega⟩, fun y hy => h2 y (low_mem hy)⟩
/-- where each line of a curve is least. -/
theorem ratio_trans {p1 q1 p2 q2 p3 q3 : Int} (h1 : 0 < q1) (h2 : 0 < q2) (h3 : 0 < q3) (a : p1 * q2 < p2 * q1) (b : p2 * q3 < p3 * q2) : p1 * q3 < p3 * q1 := by
  have a' := Int.mul_lt_mul_of_pos_right a h3
  have b' := Int.mul_lt_mul_of_pos_right b h1
  have e1 : p1 * q2 * q3 = p1 * q3 * q2 := by rw [Int.mul_assoc, Int.mul_comm q2 q3, ← Int.mul_assoc]
  have e2 : p2 * q1 * q3 = p2 * q3 * q1 := by rw [Int.mul_assoc, Int.mul_comm q1 q3, ← Int.mul_assoc]
  have e3 : p3 * q2 * q1 = p3 * q1 * q2 := by rw [Int.mul_assoc, Int.mul_comm q2 q1, ← Int.mul_assoc]
  rw [e1, e2] at a'
  rw [e3] at b'
  exact Int.lt_of_mul_lt_mul_right (Int.lt_trans a' b') (by omega)
def bp (L : List (Int × Int)) (j : Nat) : Int := av L j - av L (j - 1)
def bq (L : List (Int × Int)) (j : Nat) : Int := sv L (j - 1) - sv L j
theorem bend_pos {L : List (Int × Int)} (h : AllN L) {j : Nat} (h1 : 1 ≤ j) (h2 : j < L.length) : 0 < bp L j ∧ 0 < bq L j := by
  have := (h j h1 h2).1
  unfold bp bq; omega
theorem bend_chain {L : List (Int × Int)} (h : AllN L) {j : Nat} (h1 : 1 ≤ j) : ∀ k, j + 1 + k < L.length → bp L j * bq L (j + 1 + k) < bp L (j + 1 + k) * bq L j
  | 0, hk => by
    have := (h (j + 1) (by omega) hk).2 (by omega)
    unfold bp bq
    rw [show j + 1 + 0 = j + 1 by omega, show j + 1 - 1 = j by omega]
    rw [show j + 1 - 1 = j by omega, show j + 1 - 2 = j - 1 by omega] at this
    exact this
  | k + 1, hk => by
    have ih := bend_chain h h1 k (by omega)
    have h3 := bend_chain h (j := j + 1 + k) (by omega) 0 (by omega)
    exact ratio_trans (bend_pos h h1 (by omega)).2 (bend_pos h (by omega) (by omega)).2 (bend_pos h (by omega) (by omega)).2 ih h3
def vl (L : List (Int × Int)) (k : Nat) (N D : Int) : Int := av L k * D + sv L k * N
theorem vl_step (L : List (Int × Int)) (k : Nat) (N D : Int) : vl L (k + 1) N D - vl L k N D = bp L (k + 1) * D - bq L (k + 1) * N := by
  unfold vl bp bq
  rw [Nat.add_sub_cancel, Int.sub_mul, Int.sub_mul]; omega
/-- at the bend ahead of line i that line is least. -/
theorem least_at {L : List (Int × Int)} (h : AllN L) {i : Nat} (h1 : 1 ≤ i) (h2 : i < L.length) : (∀ k, k < L.length → vl L i (bp L i) (bq L i) ≤ vl L k (bp L i) (bq L i)) ∧ vl L (i - 1) (bp L i) (bq L i) = vl L i (bp L i) (bq L i) := by
  have e0 : vl L (i - 1) (bp L i) (bq L i) = vl L i (bp L i) (bq L i) := by
    have := vl_step L (i - 1) (bp L i) (bq L i)
    rw [show i - 1 + 1 = i by omega] at this
    rw [Int.mul_comm (bq L i) (bp L i)] at this
    omega
  refine ⟨fun k hk => ?_, e0⟩
  have up : ∀ m, i + m < L.length → vl L i (bp L i) (bq L i) ≤ vl L (i + m) (bp L i) (bq L i) := by
    intro m
    induction m with
    | zero => intro _; exact Int.le_refl _
    | succ m ih =>
      intro hm
      have h3 := ih (by omega)
      have h4 := vl_step L (i + m) (bp L i) (bq L i)
      have h5 := bend_chain h h1 m (by omega)
      rw [show i + 1 + m = i + m + 1 by omega] at h5
      rw [Int.mul_comm (bq L (i + m + 1)) (bp L i)] at h4
      rw [show i + (m + 1) = i + m + 1 by omega]
      omega
  have down : ∀ m, m ≤ i - 1 → vl L (i - 1) (bp L i) (bq L i) ≤ vl L (i - 1 - m) (bp L i) (bq L i) := by
    intro m
    induction m with
    | zero => intro _; exact Int.le_refl _
    | succ m ih =>
      intro hm
      have h3 := ih (by omega)
      have h4 := vl_step L (i - 1 - (m + 1)) (bp L i) (bq L i)
      have e : i - 1 - (m + 1) + 1 = i - 1 - m := by omega
      rw [e] at h4
      have h5 := bend_chain h (j := i - 1 - m) (by omega) m (by omega)
      rw [show i - 1 - m + 1 + m = i by omega] at h5
      rw [Int.mul_comm (bq L (i - 1 - m)) (bp L i)] at h4
      omega
  by_cases hki : i ≤ k
  · have := up (k - i) (by omega)
    rwa [show i + (k - i) = k by omega] at this
  · have := down (i - 1 - k) (by omega)
    rw [show i - 1 - (i - 1 - k) = k by omega] at this
    omega
theorem first_least {L : List (Int × Int)} (h : AllN L) : ∀ k, k < L.length → av L 0 ≤ av L k
  | 0, _ => Int.le_refl _
  | k + 1, hk => by
    have := first_least h k (by omega)
    have := (h (k + 1) (by omega) hk).1.1
    rw [Nat.add_sub_cancel] at this
    omega
theorem last_least {L : List (Int × Int)} (h : AllN L) : ∀ m, m < L.length → sv L (L.length - 1) ≤ sv L (L.length - 1 - m)
  | 0, _ => Int.le_refl _
  | m + 1, hm => by
    have := last_least h m (by omega)
    have h3 := (h (L.length - 1 - m) (by omega) (by omega)).1.2
    rw [show L.length - 1 - m - 1 = L.length - 1 - (m + 1) by omega] at h3
    omega
theorem two_zero {u w a b c d : Int} (h1 : u * b + w * a = 0) (h2 : u * d + w * c = 0) (h : a * d ≠ c * b) : u = 0 ∧ w = 0 := by
  have e1 : u * (a * d - c * b) = 0 := by
    have i1 : (u * b + w * a) * c = 0 := by rw [h1]; simp
    have i2 : (u * d + w * c) * a = 0 := by rw [h2]; simp
    rw [Int.add_mul] at i1 i2
    have j1 : u * b * c = u * (c * b) := by rw [Int.mul_assoc, Int.mul_comm b c]
    have j2 : u * d * a = u * (a * d) := by rw [Int.mul_assoc, Int.mul_comm d a]
    have j3 : w * a * c = w * c * a := by rw [Int.mul_assoc, Int.mul_comm a c, ← Int.mul_assoc]
    rw [Int.mul_sub]; omega
  have e2 : w * (a * d - c * b) = 0 := by
    have i1 : (u * b + w * a) * d = 0 := by rw [h1]; simp
    have i2 : (u * d + w * c) * b = 0 := by rw [h2]; simp
    rw [Int.add_mul] at i1 i2
    have j1 : w * a * d = w * (a * d) := Int.mul_assoc _ _ _
    have j2 : w * c * b = w * (c * b) := Int.mul_assoc _ _ _
    have j3 : u * b * d = u * d * b := by rw [Int.mul_assoc, Int.mul_comm b d, ← Int.mul_assoc]
    rw [Int.mul_sub]; omega
  have hne : a * d - c * b ≠ 0 := by omega
  exact ⟨(Int.mul_eq_zero.1 e1).resolve_right hne, (Int.mul_eq_zero.1 e2).resolve_right hne⟩
/-- each line of a curve has two times, not in one direction, at which it is least. -/
theorem two_times {L : List (Int × Int)} (h : AllN L) {i : Nat} (hi : i < L.length) : ∃ N1 D1 N2 D2 : Int, (0 ≤ N1 ∧ 0 ≤ D1 ∧ 0 ≤ N2 ∧ 0 ≤ D2) ∧ N1 * D2 ≠ N2 * D1 ∧ (∀ k, k < L.length → vl L i N1 D1 ≤ vl L k N1 D1) ∧ (∀ k, k < L.length → vl L i N2 D2 ≤ vl L k N2 D2) := by
  have hz1 : ∀ k, vl L k 0 1 = av L k := fun k => by unfold vl; omega
  have hz2 : ∀ k, vl L k 1 0 = sv L k := fun k => by unfold vl; omega
  have hf : ∀ k, k < L.length → vl L 0 0 1 ≤ vl L k 0 1 := fun k hk => by rw [hz1, hz1]; exact first_least h k hk
  have hl : ∀ k, k < L.length → vl L (L.length - 1) 1 0 ≤ vl L k 1 0 := fun k hk => by
    rw [hz2, hz2]
    have := last_least h (L.length - 1 - k) (by omega)
    rwa [show L.length - 1 - (L.length - 1 - k) = k by omega] at this
  by_cases h0 : i = 0
  · subst h0
    by_cases hn : L.length = 1
    · refine ⟨0, 1, 1, 0, by omega, by decide, hf, ?_⟩
      rw [hn] at hl ⊢
      exact hl
    · obtain ⟨p, q⟩ := bend_pos h (j := 1) (by omega) (by omega)
      obtain ⟨g1, g2⟩ := least_at h (i := 1) (by omega) (by omega)
      refine ⟨0, 1, bp L 1, bq L 1, by omega, by omega, hf, fun k hk => ?_⟩
      have := g1 k hk
      rw [show 1 - 1 = 0 by omega] at g2
      omega
  · obtain ⟨p, q⟩ := bend_pos h (j := i) (by omega) (by omega)
    obtain ⟨g1, g2⟩ := least_at h (i := i) (by omega) (by omega)
    by_cases hn : i + 1 = L.length
    · refine ⟨bp L i, bq L i, 1, 0, by omega, by omega, g1, ?_⟩
      rw [show i = L.length - 1 by omega]
      exact hl
    · obtain ⟨p', q'⟩ := bend_pos h (j := i + 1) (by omega) (by omega)
      obtain ⟨f1, f2⟩ := least_at h (i := i + 1) (by omega) (by omega)
      have hc := bend_chain h (j := i) (by omega) 0 (by omega)
      rw [show i + 1 + 0 = i + 1 by omega] at hc
      refine ⟨bp L i, bq L i, bp L (i + 1), bq L (i + 1), by omega, by omega, g1, fun k hk => ?_⟩
      have := f1 k hk
      rw [Nat.add_sub_cancel] at f2
      omega
theorem val_vl {L : List (Int × Int)} {k : Nat} (h : k < L.length) (N D : Int) : vl L k N D = val L[k] N D := by
  unfold vl val; rw [(at_get h).1, (at_get h).2]
theorem nrm_sub {A B : List (Int × Int)} (hA : AllN A) (h : ∀ N D v, 0 ≤ N → 0 ≤ D → IsMin A N D v → IsMin B N D v) : ∀ x ∈ A, x ∈ B := by
  intro x hx
  obtain ⟨i, hi, rfl⟩ := List.mem_iff_getElem.1 hx
  obtain ⟨N1, D1, N2, D2, ⟨a1, a2, a3, a4⟩, hne, m1, m2⟩ := two_times hA hi
  have all : ∀ N D, (∀ k, k < A.length → vl A i N D ≤ vl A k N D) → IsMin A N D (val A[i] N D) := fun N D hm => by
    refine ⟨⟨_, hx, rfl⟩, fun y hy => ?_⟩
    obtain ⟨k, hk, rfl⟩ := List.mem_iff_getElem.1 hy
    rw [← val_vl hi, ← val_vl hk]
    exact hm k hk
  have s1 := h N1 D1 _ a1 a2 (all N1 D1 m1)
  have s2 := h N2 D2 _ a3 a4 (all N2 D2 m2)
  have lin : ∀ y, val y (N1 + N2) (D1 + D2) = val y N1 D1 + val y N2 D2 := fun y => by unfold val; rw [Int.mul_add, Int.mul_add]; omega
  have linv : ∀ k, vl A k (N1 + N2) (D1 + D2) = vl A k N1 D1 + vl A k N2 D2 := fun y => by unfold vl; rw [Int.mul_add, Int.mul_add]; omega
  have s3 := h (N1 + N2) (D1 + D2) _ (by omega) (by omega) (all (N1 + N2) (D1 + D2) (fun k hk => by rw [linv, linv]; have := m1 k hk; have := m2 k hk; omega))
  obtain ⟨⟨y, hy, e⟩, _⟩ := s3
  have b1 := s1.2 y hy
  have b2 := s2.2 y hy
  rw [lin, lin] at e
  have e1 : val y N1 D1 = val A[i] N1 D1 := by omega
  have e2 : val y N2 D2 = val A[i] N2 D2 := by omega
  unfold val at e1 e2
  have z := two_zero (u := y.1 - A[i].1) (w := y.2 - A[i].2) (a := N1) (b := D1) (c := N2) (d := D2) (by rw [Int.sub_mul, Int.sub_mul]; omega) (by rw [Int.sub_mul, Int.sub_mul]; omega) hne
  have : y = A[i] := Prod.ext (by omega) (by omega)
  rwa [this] at hy
theorem lt_same {A B : List (Int × Int)} (hA : A.Pairwise (fun a b => a.1 < b.1)) (hB : B.Pairwise (fun a b => a.1 < b.1)) (h : ∀ x, x ∈ A ↔ x ∈ B) : A = B := by
  induction A generalizing B with
  | nil =>
    cases B with
    | nil => rfl
    | cons b B => exact absurd ((h b).2 (by simp)) (by simp)
  | cons a A ih =>
    cases B with
    | nil => exact absurd ((h a).1 (by simp)) (by simp)
    | cons b B =>
      rw [List.pairwise_cons] at hA hB
      have hab : a = b := by
        rcases List.mem_cons.1 ((h a).1 (by simp)) with e | e
        · exact e
        · rcases List.mem_cons.1 ((h b).2 (by simp)) with e' | e'
          · exact e'.symm
          · have := hA.1 b e'; have := hB.1 a e; omega
      subst hab
      refine congrArg (a :: ·) (ih hA.2 hB.2 fun x => ?_)
      constructor
      · intro hx
        rcases List.mem_cons.1 ((h x).1 (by simp [hx])) with rfl | e
        · have := hA.1 x hx; omega
        · exact e
      · intro hx
        rcases List.mem_cons.1 ((h x).2 (by simp [hx])) with rfl | e
        · have := hB.1 x hx; omega
        · exact e
theorem nrm_lt {L : List (Int × Int)} (h : AllN L) : L.Pairwise (fun a b => a.1 < b.1) := by
  rw [List.pairwise_iff_getElem]
  intro i j hi hj hij
  have key : ∀ k, i + 1 + k < L.length → SM.av L i < SM.av L (i + 1 + k) := by
    intro k
    induction k with
    | zero => intro hk; have := (h (i + 1) (by omega) hk).1.1; rwa [Nat.add_sub_cancel] at this
    | succ k ih =>
      intro hk
      have h1 := ih (by omega)
      have h2 := (h (i + 1 + k + 1) (by omega) hk).1.1
      rw [Nat.add_sub_cancel] at h2
      exact Int.lt_trans h1 h2
  have h3 := key (j - i - 1) (by omega)
  rw [show i + 1 + (j - i - 1) = j by omega, (at_get hi).1, (at_get hj).1] at h3
  exact h3
/-- two curves that are as high everywhere are the same. -/
theorem nrm_same {A B : List (Int × Int)} (hA : Nrm A) (hB : Nrm B) (h : ∀ N D v, 0 ≤ N → 0 ≤ D → (IsMin A N D v ↔ IsMin B N D v)) : A = B :=
  lt_same (nrm_lt hA.2) (nrm_lt hB.2) fun x => ⟨fun hx => nrm_sub hA.2 (fun N D v a b c => (h N D v a b).1 c) x hx, fun hx => nrm_sub hB.2 (fun N D v a b c => (h N D v a b).2 c) x hx⟩
theorem low_same {l m : List (Int × Int)} (hl : l ≠ []) (hm : m ≠ []) (h : ∀ N D v, 0 ≤ N → 0 ≤ D → (IsMin l N D v ↔ IsMin m N D v)) : low l = low m :=
  nrm_same (low_nrm hl) (low_nrm hm) fun N D v a b => by rw [low_min a b, low_min a b]; exact h N D v a b
theorem IsMin.mem {l m : List (Int × Int)} (h : ∀ x, x ∈ l ↔ x ∈ m) {N D v : Int} : IsMin l N D v ↔ IsMin m N D v := by
  unfold IsMin
  constructor
  · rintro ⟨⟨x, hx, e⟩, h2⟩; exact ⟨⟨x, (h x).1 hx, e⟩, fun y hy => h2 y ((h y).2 hy)⟩
  · rintro ⟨⟨x, hx, e⟩, h2⟩; exact ⟨⟨x, (h x).2 hx, e⟩, fun y hy => h2 y ((h y).1 hy)⟩
/-- what stays does not hang on the order, nor on what is told twice. -/
theorem low_mems {l m : List (Int × Int)} (hl : l ≠ []) (h : ∀ x, x ∈ l ↔ x ∈ m) : low l = low m :=
  low_same hl (fun e => hl (by
    subst e
    cases l with
    | nil => rfl
    | cons a l => exact absurd ((h a).1 (by simp)) (by simp))) fun N D v _ _ => IsMin.mem h
end CM
end Go.Proofs.Ytpgaklfgbioocaa

namespace Go.Proofs.Ytpgaklfgbioocaa
set_option linter.unusedVariables false
open Go.RowKit Go.Proofs.Ytpgaklfgbioocaa.RowK Go.Shelf
attribute [local go_sem] Oper.semAt_some

abbrev Crv := Value × List (Int × Int)
def curV (c : Crv) : List Value := [c.1]
/-- the slice holds the lines. -/
def HeldC (W : World) (B : Nat) (c : Crv) : Prop := ∃ A k, c.1 = .slice A c.2.length k ∧ Lie sendV 2 W B A c.2
def Curves (W : World) (B : Nat) (A : Option Addr) (cs : List Crv) : Prop := Lie curV 1 W B A cs ∧ ∀ c ∈ cs, HeldC W B c
theorem HeldC.keep {W W' : World} {B : Nat} {c : Crv} (h : HeldC W B c) (hb : Below B W W') : HeldC W' B c := by
  obtain ⟨A, k, e, hl⟩ := h
  exact ⟨A, k, e, hl.keep hb⟩
theorem Curves.keep {W W' : World} {B : Nat} {A : Option Addr} {cs : List Crv} (h : Curves W B A cs) (hb : Below B W W') : Curves W' B A cs :=
  ⟨h.1.keep hb, fun c hc => (h.2 c hc).keep hb⟩
theorem Curves.more {W : World} {B B' : Nat} {A : Option Addr} {cs : List Crv} (h : Curves W B A cs) (hb : B ≤ B') : Curves W B' A cs :=
  ⟨h.1.more hb, fun c hc => by obtain ⟨A, k, e, hl⟩ := h.2 c hc; exact ⟨A, k, e, hl.more hb⟩⟩
theorem Curves.at_ {W : World} {B : Nat} {A : Option Addr} {cs : List Crv} (h : Curves W B A cs) (i : Nat) (hi : i < cs.length) : ∃ ad, A = some ad ∧ ad.block < B ∧ W.cell? (ad.add i) = some cs[i].1 := by
  obtain ⟨ad, e, hb, hc⟩ := h.1 (by omega)
  refine ⟨ad, e, hb, ?_⟩
  have := hc i cs[i] (by simp [hi]) 0 cs[i].1 rfl
  simpa using this
def allLines (cs : List Crv) : List (Int × Int) := cs.flatMap (·.2)
theorem allLines_take {cs : List Crv} {k : Nat} (h : k < cs.length) : allLines (cs.take (k + 1)) = allLines (cs.take k) ++ cs[k].2 := by
  unfold allLines
  rw [List.take_add_one, List.getElem?_eq_getElem h, List.flatMap_append]; simp
theorem allLines_prefix (cs : List Crv) (k : Nat) : allLines (cs.take k) <+: allLines cs := by
  unfold allLines
  conv => rhs; rw [← List.take_append_drop k cs, List.flatMap_append]
  exact List.prefix_append _ _
theorem take_one {L : List (Int × Int)} {m : Nat} (h : m < L.length) : L.take (m + 1) = L.take m ++ [(SM.av L m, SM.sv L m)] := by
  rw [List.take_add_one, List.getElem?_eq_getElem h, ← (av_at h).1, ← (av_at h).2]; rfl
theorem part_prefix {cs : List Crv} {k : Nat} (h : k < cs.length) (m : Nat) : allLines (cs.take k) ++ cs[k].2.take m <+: allLines cs := by
  refine List.IsPrefix.trans ?_ (allLines_prefix cs (k + 1))
  rw [allLines_take h]
  exact (List.prefix_append_right_inj _).2 (List.take_prefix _ _)
theorem part_lt {cs : List Crv} {k : Nat} (h : k < cs.length) {m : Nat} (hm : m < cs[k].2.length) : (allLines (cs.take k) ++ cs[k].2.take m).length < (allLines cs).length := by
  have h1 := (part_prefix h (m + 1)).length_le
  simp only [List.length_append, List.length_take] at *
  omega

set_option maxRecDepth 100000 in
set_option maxHeartbeats 4000000 in
theorem joined1_in (F : Fence) (n : Nat) (h61 : F.fn 49) (hro : F.round = none) (hn : 1 ≤ n) (l Bs n₀ : Nat) (A : Option Addr) (k : Nat) (cs : List Crv) (hlen : cs.length ≤ 1000000) (hlen2 : ∀ c ∈ cs, c.2.length ≤ 1000000) (J Jx : List (Int × Int) → World → Prop)
    (W : World) (hn0 : n₀ ≤ W.heap.size) (hJ : AbidesFrom W.heap.size J)
    (hY : ∀ pre x W, J pre W → pre.length < (allLines cs).length → YieldAt F (n - 1) Try.prog l #[.agg #[.int .i64 x.1, .int .i64 x.2]] W fun e W' =>
      (e = .returned (.bool true) ∧ J (pre ++ [x]) W' ∧ Below n₀ W W') ∨ (e = .returned (.bool false) ∧ Jx (pre ++ [x]) W'))
    (hBs : W.cell? ⟨Bs, 0, none⟩ = some (.slice A cs.length k)) (hC : Curves W n₀ A cs) (h0 : J [] W) :
    CallsIn F n Try.prog 49 #[.func (.yield l) #[] #[], .pointer (some ⟨Bs, 0, none⟩)] W fun e W' => (∃ v, e = .returned v) ∧
      ((∃ ys, ys = allLines cs ∧ J ys W') ∨ (∃ pre, pre <+: allLines cs ∧ Jx pre W')) := by
  have HC := hidd hC
  clear hC
  refine callsIn_of_wp Try.func49 rfl h61 ?_ hro
  simp only [Try.ntmps49, List.size_toArray, List.length_cons, List.length_nil, Nat.reduceAdd, Nat.reduceSub, Array.replicate_succ, Array.replicate_zero, List.push_toArray, List.append_toArray, List.nil_append, List.cons_append]
  gi_wp2
  gi_loopw [9] (fun i wr => ∃ q : Nat, q ≤ cs.length ∧ i = .int .i64 q ∧ J (allLines (cs.take q)) wr ∧ Below n₀ W wr)
    (fun i _ => cs.length - (intOf i).toNat)
  case atStart => exact ⟨0, Nat.zero_le _, rfl, h0, Below.refl _ _⟩
  case round =>
    obtain ⟨q, hq, rfl, hJs, hnx⟩ := hrel
    by_cases hlt : q < cs.length
    · obtain ⟨ad, rfl, hab, hcell⟩ := (HC.out.keep hnx).at_ q hlt
      obtain ⟨A2, k2, he2, hl2⟩ := HC.out.2 cs[q] (List.getElem_mem hlt)
      rw [he2] at hcell
      have HL2 := hidd hl2
      have hL := hlen2 cs[q] (List.getElem_mem hlt)
      have HT := hidd (allLines_take hlt)
      have HP := hidd (fun m => part_prefix hlt m)
      have HPL := hidd (fun m h => part_lt hlt (m := m) h)
      clear hl2 he2
      generalize cs[q].2 = L at *
      have hq2 : (q : Int) < (cs.length : Int) := by omega
      gi_wp2
      obtain ⟨wo, hwo⟩ : ∃ wo : World, wo = wr := ⟨_, rfl⟩
      gi_loopw [15] (fun j wx => ∃ m : Nat, m ≤ L.length ∧ j = .int .i64 m ∧ J (allLines (cs.take q) ++ L.take m) wx ∧ Below n₀ W wx)
        (fun j _ => L.length - (intOf j).toNat)
      case atStart => exact ⟨0, Nat.zero_le _, rfl, by simpa using hJs, hnx⟩
      case round =>
        obtain ⟨m, hm, rfl, hJm, hmx⟩ := hrel
        by_cases hlm : m < L.length
        · have hm2 : (m : Int) < (L.length : Int) := by omega
          obtain ⟨bd, rfl, hbb, x0, x1⟩ := (HL2.out.keep hmx).send m hlm
          rw [(av_at hlm).1] at x0
          rw [(av_at hlm).2] at x1
          have HT1 := hidd (take_one hlm)
          have hJa : J (allLines (cs.take q) ++ L.take m) (wr.alloc (.cells #[.int .i64 (SM.av L m), .int .i64 (SM.sv L m)] 44)) := hJ _ _ _ none hJm (World.grownBy_alloc _ _ _) (by simp)
          obtain ⟨fn, tmps, assign, body, hy, hR⟩ := hY _ (SM.av L m, SM.sv L m) _ hJa (HPL.out m hlm)
          dsimp only at hy
          generalize SM.av L m = a0 at *
          generalize SM.sv L m = a1 at *
          gi_wp2
          refine hR.mono ?_
          rintro e W3 (⟨rfl, hJ3, hk3⟩ | ⟨rfl, hJx3⟩)
          · gi_wp2
            go_roundw
            case rel => exact ⟨m + 1, by omega, by simp, by rw [HT1.out, ← List.append_assoc]; exact hJ3, (hmx.alloc (by have := hmx.size; omega) _).trans hk3⟩
            case measure => simp [intOf]; omega
          · gi_wp2
            refine bodyPost_ret (results_none rfl _ _ _) rfl ?_
            exact ⟨⟨_, rfl⟩, .inr ⟨_, by rw [List.append_assoc, ← HT1.out]; exact HP.out (m + 1), hJx3⟩⟩
        · obtain rfl : m = L.length := by omega
          gi_wp2
          go_roundw
          case rel => exact ⟨q + 1, by omega, by simp, by rw [HT.out]; simpa using hJm, hmx⟩
          case measure => simp [intOf]; omega
    · obtain rfl : q = cs.length := by omega
      gi_wp2
      go_end0
      exact ⟨⟨_, rfl⟩, .inl ⟨_, by rw [List.take_length], hJs⟩⟩
end Go.Proofs.Ytpgaklfgbioocaa

namespace Go.Proofs.Ytpgaklfgbioocaa
set_option linter.unusedVariables false
open Go.RowKit Go.Proofs.Ytpgaklfgbioocaa.RowK Go.Shelf Go.Sort Go.Lib

/-- draws and new blocks alone. -/
def Grew (w w' : World) : Prop := ∃ q os, w' = grow (w.drewN q) os
theorem Grew.refl (w : World) : Grew w w := ⟨0, #[], by simp [World.drewN]⟩
theorem Grew.alloc {w W : World} (h : Grew w W) (o : Obj) : Grew w (W.alloc o) := by
  obtain ⟨q, os, rfl⟩ := h
  exact ⟨q, os ++ #[o], by rw [alloc_eq_grow, grow_grow]⟩
theorem Grew.drewN {w W : World} (h : Grew w W) (n : Nat) : Grew w (W.drewN n) := by
  obtain ⟨q, os, rfl⟩ := h
  exact ⟨q + n, os, by show grow ((w.drewN q).drewN n) os = _; rw [World.drewN_drewN]⟩
theorem Grew.drew {w W : World} (h : Grew w W) : Grew w W.drew := h.drewN 1
theorem lineC_le (a b : Int × Int) : (!ltOf lineC b a) = CM.le a b := by
  unfold ltOf lineC orV cmpV CM.le
  rcases Int.lt_trichotomy a.1 b.1 with h | h | h
  · have h1 : ¬ b.1 < a.1 := by omega
    simp [h, h1]
  · rcases Int.lt_trichotomy a.2 b.2 with g | g | g
    · have g1 : ¬ b.2 < a.2 := by omega
      have g2 : a.2 ≤ b.2 := by omega
      simp [h, g, g1, g2]
    · simp [h, g]
    · have g2 : ¬ a.2 ≤ b.2 := by omega
      simp [h, g, g2]
  · have h1 : ¬ a.1 < b.1 := by omega
    have h2 : ¬ a.1 = b.1 := by omega
    simp [h, h1, h2]
theorem lineC_lt (a b : Int × Int) : ltOf lineC a b = decide (a.1 < b.1 ∨ a.1 = b.1 ∧ a.2 < b.2) := by
  have h := lineC_le b a
  have e : ltOf lineC a b = !CM.le b a := by rw [← h]; simp
  rw [e]
  unfold CM.le
  rw [Bool.eq_iff_iff]
  simp
  omega
theorem lineO : SWO (ltOf lineC) where
  irrefl x := by rw [lineC_lt]; simp
  trans x y z h1 h2 := by rw [lineC_lt] at *; simp at *; omega
  ntrans x y z h1 h2 := by rw [lineC_lt] at *; simp at *; omega
theorem line_sorted (d d' : Array (Int × Int)) (hp : PermIn 0 d.size d d') (hs : SortedIn (ltOf lineC) 0 d.size d') : d'.toList = CM.sortL d.toList := by
  have h := sorted_unique_holds (lt := ltOf lineC) lineO (fun x y h1 h2 => by rw [lineC_lt] at *; simp at *; exact Prod.ext (by omega) (by omega)) d d' hp hs
  have e : (fun x y : Int × Int => !ltOf lineC y x) = CM.le := by funext x y; exact lineC_le x y
  rw [e] at h
  exact h
theorem flat_row (d : Array (Int × Int)) : (flatK sendV 2 d).toList = rowOf sendV d.toList := by
  apply List.ext_getElem?
  intro t
  have hl : (rowOf sendV d.toList).length = d.size * 2 := by rw [row_len sendV_len]; simp
  by_cases ht : t < d.size * 2
  · have h1 : t / 2 < d.size := by omega
    have e1 := row_at sendV_len d.toList (t / 2) d[t / 2] (by simp [h1])
    have e2 : t / 2 * 2 + t % 2 = t := by omega
    have h2 : t % 2 < (sendV d[t / 2]).length := by rw [sendV_len]; omega
    have e3 := e1 (t % 2) (sendV d[t / 2])[t % 2] (by simp [h2])
    rw [e2] at e3
    rw [e3, Array.getElem?_toList, Array.getElem?_eq_getElem (by simpa using ht)]
    have := get_flatK sendV 2 d t ht
    rw [getElem!_pos _ t (by simpa using ht), getElem!_pos d (t / 2) h1, getElem!_pos (sendV d[t / 2]) (t % 2) h2] at this
    rw [this]
  · rw [List.getElem?_eq_none (by simp; omega), List.getElem?_eq_none (by omega)]
theorem holds_own {w : World} {g : Nat} {cur : Array Value} {e : TypeId} {L : List (Int × Int)} (hb : w.heap[g]? = some (.cells cur e (0, 0))) (ht : cur.toList.take (L.length * 2) = rowOf sendV L) : HoldsK sendV 2 w g 0 L.toArray := by
  intro j hj
  have hj' : j < L.length * 2 := by simpa using hj
  refine ⟨?_, by simp [World.frozen?, hb]⟩
  have h1 : (cur.toList.take (L.length * 2))[j]? = (rowOf sendV L)[j]? := by rw [ht]
  rw [List.getElem?_take_of_lt hj'] at h1
  have h2 : (flatK sendV 2 L.toArray).toList[j]? = (rowOf sendV L)[j]? := by rw [flat_row]
  rw [Array.getElem?_toList, Array.getElem?_eq_getElem (by simpa using hj')] at h2
  simp only [World.cell?, hb, Nat.zero_add, Option.isSome_none, Bool.false_eq_true, if_false]
  rw [← Array.getElem?_toList, h1, ← h2, getElem!_pos _ j hj]
  rfl
theorem heap_sortedK {w : World} {g n : Nat} {os : Array Obj} {cur : Array Value} {e : TypeId} {fr : Nat × Nat} (d : Array (Int × Int)) (hb : w.heap[g]? = some (.cells cur e fr)) :
    (sortWorldK sendV 2 w g 0 n d os).heap[g]? = some (.cells (putCells id 0 (flatK sendV 2 d) cur) e fr) := by
  have hg : g < w.heap.size := (Array.getElem?_eq_some_iff.1 hb).1
  unfold sortWorldK
  rw [heap_grow_old _ _ (by rw [size_putRowK]; simpa using hg)]
  simp [putRowK, putRow, mapBlock, Sort.ahead, Array.getElem?_modify, hb, onCells]
theorem grownBy_sortedK {w : World} {g n : Nat} {os : Array Obj} (d : Array (Int × Int)) : w.grownBy (sortWorldK sendV 2 w g 0 n d os) (some g) := by
  refine ⟨rfl, rfl, rfl, by unfold sortWorldK; simp [size_putRowK, Sort.ahead], fun k hk hne => ?_⟩
  unfold sortWorldK
  rw [heap_grow_old _ _ (by rw [size_putRowK]; simpa using hk)]
  have : g ≠ k := fun e => hne (by rw [e])
  simp [putRowK, putRow, mapBlock, Sort.ahead, Array.getElem?_modify, this]
theorem take_putK (cur F : Array Value) (h : F.size ≤ cur.size) : (putCells id 0 F cur).toList.take F.size = F.toList := by
  apply List.ext_getElem?
  intro j
  by_cases hj : j < F.size
  · rw [List.getElem?_take_of_lt hj, Array.getElem?_toList]
    simp [putCells, hj, show j < cur.size by omega]
  · rw [List.getElem?_take_eq_none (by omega), List.getElem?_eq_none (by simp; omega)]
theorem OwnL.sorted {w : World} {base g cap n : Nat} {e : TypeId} {os : Array Obj} {L : List (Int × Int)} (h : OwnL sendV 2 w base e (.slice (some ⟨g, 0, none⟩) L.length cap) L) (d' : Array (Int × Int)) (hd : d'.toList = CM.sortL L) :
    OwnL sendV 2 (sortWorldK sendV 2 w g 0 n d' os) base e (.slice (some ⟨g, 0, none⟩) L.length cap) (CM.sortL L) := by
  have hl : (CM.sortL L).length = L.length := (CM.sortL_perm L).length_eq
  have hs : d'.size = L.length := by rw [← hl, ← hd]; simp
  obtain ⟨h0, h1⟩ := h
  rcases h1 with ⟨hv, _⟩ | ⟨g', cap', cur, hv, hb, hh, hn, hm, hc, ht⟩
  · cases hv
  cases hv
  refine ⟨by rw [row_len sendV_len], .inr ⟨g, cap, _, by rw [hl], hb, heap_sortedK d' hh, by omega, hm, by simp [putCells, hc], ?_⟩⟩
  have e1 : (CM.sortL L).length * 2 = (flatK sendV 2 d').size := by rw [size_flatK, hs, hl]
  rw [e1, take_putK _ _ (by rw [size_flatK, hs, hc]; exact Nat.mul_le_mul_right 2 hn), flat_row, hd]
theorem OwnL.holds {w : World} {base g cap : Nat} {e : TypeId} {L : List (Int × Int)} (h : OwnL sendV 2 w base e (.slice (some ⟨g, 0, none⟩) L.length cap) L) : HoldsK sendV 2 w g 0 L.toArray ∧ g < w.heap.size := by
  obtain ⟨_, h1⟩ := h
  rcases h1 with ⟨hv, _⟩ | ⟨g', cap', cur, hv, hb, hh, hn, hm, hc, ht⟩
  · cases hv
  cases hv
  exact ⟨holds_own hh ht, (Array.getElem?_eq_some_iff.1 hh).1⟩
end Go.Proofs.Ytpgaklfgbioocaa

namespace Go.Proofs.Ytpgaklfgbioocaa
set_option linter.unusedVariables false
open Go.RowKit Go.Proofs.Ytpgaklfgbioocaa.RowK Go.Shelf Go.Sort Go.Lib

set_option maxHeartbeats 2000000 in
theorem lowest1_grew (a0 a1 b0 b1 : Int) (w : World) : Calls Try.prog 36 #[.agg #[.int .i64 a0, .int .i64 a1], .agg #[.int .i64 b0, .int .i64 b1]] w fun e w' => e = .returned (.int .i64 (lineC (a0, a1) (b0, b1))) ∧ Grew w w' := by
  have c1 := hidd (fun W => compare_any a0 b0 W)
  have c2 := hidd (fun W => compare_any a1 b1 W)
  have co := hidd (fun b W h0 h1 => or_any (cmpV a0 b0) (cmpV a1 b1) b W h0 h1)
  unfold lineC
  dsimp only
  generalize cmpV a0 b0 = x at *
  generalize cmpV a1 b1 = y at *
  generalize orV x y = z at *
  go_enter Try.func36, Try.ntmps36
  go_wp2_with fail
  go_region_held3 (fun w' => w'.cell? ⟨w.heap.size, 0, none⟩ = some (.int .i64 a0) ∧ w'.cell? ⟨w.heap.size, 1, none⟩ = some (.int .i64 a1) ∧ w'.cell? ⟨w.heap.size + 1, 0, none⟩ = some (.int .i64 b0) ∧ w'.cell? ⟨w.heap.size + 1, 1, none⟩ = some (.int .i64 b1))
    ((first | go_keep | (simp [go_sem]; done) | (refine ⟨?_, ?_, ?_, ?_⟩ <;> simp [go_sem])))
    ((first
      | (go_at_call_of 38 (Value.int IntKind.i64 a0); refine (c1.out _).mono ?_; rintro E w1 ⟨rfl, rfl⟩)
      | (go_at_call_of 38 (Value.int IntKind.i64 a1); refine (c2.out _).mono ?_; rintro E w1 ⟨rfl, rfl⟩)
      | (go_at_call 37; refine (co.out _ _ (by simp [go_sem]) (by simp [go_sem])).mono ?_; rintro E w1 ⟨rfl, rfl⟩)))
  all_goals go_wp2_with fail
  all_goals go_ret
  all_goals (refine ⟨rfl, ?_⟩; repeat' (first | with_reducible exact Grew.refl _ | with_reducible apply Grew.alloc | with_reducible apply Grew.drew | with_reducible apply Grew.drewN))
theorem lowest1_lays (blk off size : Nat) (w : World) : CmpLays Try.prog 36 #[] sendV 2 lineC blk off size w :=
  fun _ _ _ _ x y => lowest1_grew x.1 x.2 y.1 y.2 _
theorem joined_in (F : Fence) (n : Nat) (h48 : F.fn 35) (hro : F.round = none) (a : Option Addr) (len cap : Nat) (w : World) :
    CallsIn F n Try.prog 35 #[.slice a len cap] w fun e w' => e = .returned (.func (.func 49) #[] #[.pointer (some ⟨w.heap.size, 0, none⟩)]) ∧ w' = w.alloc (.cells #[.slice a len cap] 22) := by
  refine callsIn_of_wp Try.func35 rfl h48 ?_ hro
  simp only [Try.ntmps35, List.size_toArray, List.length_cons, List.length_nil, Nat.reduceAdd, Nat.reduceSub, Array.replicate_succ, Array.replicate_zero, List.push_toArray, List.append_toArray, List.nil_append, List.cons_append]
  gi_wp2
  go_ret
  exact ⟨rfl, rfl⟩
theorem joined_stops (F : Fence) (n : Nat) (h61 : F.fn 49) (hro : F.round = none) (hn : 1 ≤ n) (Bs n₀ : Nat) (A : Option Addr) (k : Nat) (cs : List Crv) (hlen : cs.length ≤ 1000000) (hlen2 : ∀ c ∈ cs, c.2.length ≤ 1000000) (w : World) (hBs : Bs < w.heap.size) (hn₀ : n₀ ≤ w.heap.size)
    (hc : w.cell? ⟨Bs, 0, none⟩ = some (.slice A cs.length k)) (hC : Curves w n₀ A cs) :
    SeqStopsK F n Try.prog 49 #[.pointer (some ⟨Bs, 0, none⟩)] (fun x : Int × Int => #[Value.agg #[.int .i64 x.1, .int .i64 x.2]]) (Below n₀) (fun ys => ys = allLines cs) (fun pre => pre <+: allLines cs) (allLines cs).length w := fun l J Jx W hW hJ _ hY h0 =>
  joined1_in F n h61 hro hn l Bs n₀ A k cs hlen hlen2 J Jx W (Nat.le_trans hn₀ hW.size) hJ hY ((hW.cell (p := ⟨Bs, 0, none⟩) hBs).trans hc) (hC.keep (hW.mono hn₀)) h0
end Go.Proofs.Ytpgaklfgbioocaa

namespace Go.Proofs.Ytpgaklfgbioocaa
set_option linter.unusedVariables false
open Go.RowKit Go.Proofs.Ytpgaklfgbioocaa.RowK Go.Shelf Go.Sort Go.Lib
attribute [local go_sem] Oper.semAt_some

theorem OwnL.base {w : World} {b b' : Nat} {e : TypeId} {v : Value} {L : List (Int × Int)} (h : OwnL sendV 2 w b' e v L) (hb : b ≤ b') : OwnL sendV 2 w b e v L := by
  obtain ⟨h0, h1⟩ := h
  refine ⟨h0, ?_⟩
  rcases h1 with h | ⟨g, cap, cur, e1, e2, e3⟩
  · exact .inl h
  · exact .inr ⟨g, cap, cur, e1, Nat.le_trans hb e2, e3⟩
theorem lineInfo : (Try.prog.info? 44).map (fun i => (i.zero, i.size, i.bytes)) = some (some (.agg #[.int .i64 0, .int .i64 0]), 2, 16) := by kernel_rfl
theorem cell_two_new (w : World) (x y : Value) (t : TypeId) : ∀ j u, [x, y][j]? = some u → (w.alloc (.cells #[x, y] t)).cell? ((⟨w.heap.size, 0, none⟩ : Addr).add j) = some u := by
  intro j u hj
  match j, hj with
  | 0, hj => simp at hj; subst hj; simp [Addr.add, go_sem]
  | 1, hj => simp at hj; subst hj; simp [Addr.add, go_sem]
theorem LineBox.kept2 {X Y : World} {b : Nat} {x y : Int} {row : Option Nat} (h : LineBox X b x y) (hg : X.grownBy Y row) (hr : ∀ r, row = some r → ∃ o : Obj, X.heap[r]? = some o ∧ o.isCells = false) : LineBox Y b x y :=
  ⟨Nat.lt_of_lt_of_le h.1 hg.size, cell_kept h.2.1 hg hr, cell_kept h.2.2 hg hr⟩
theorem LineBox.new (w : World) (t : TypeId) (x y : Int) : LineBox (w.alloc (.cells #[.int .i64 x, .int .i64 y] t)) w.heap.size x y := ⟨by simp, by simp [go_sem], by simp [go_sem]⟩
def SortsLines : Prop := ∀ (g cap base : Nat) (L : List (Int × Int)) (W : World), L.length ≤ 1000000 → OwnL sendV 2 W base 44 (.slice (some ⟨g, 0, none⟩) L.length cap) L →
  Calls Try.prog 48 #[.slice (some ⟨g, 0, none⟩) L.length cap, .func (.func 36) #[] #[]] W fun e w' => e = .returned (.tuple #[]) ∧ OwnL sendV 2 w' base 44 (.slice (some ⟨g, 0, none⟩) L.length cap) (CM.sortL L) ∧ W.grownBy w' (some g)
set_option maxRecDepth 100000 in
set_option maxHeartbeats 4000000 in
theorem inOrder_any (hsort : SortsLines) (Bs : Nat) (A : Option Addr) (k : Nat) (cs : List Crv) (hlen : cs.length ≤ 1000000) (hlen2 : ∀ c ∈ cs, c.2.length ≤ 1000000) (hall : (allLines cs).length ≤ 1000000) (hne : allLines cs ≠ []) (w : World) (hBs : Bs < w.heap.size)
    (hc : w.cell? ⟨Bs, 0, none⟩ = some (.slice A cs.length k)) (hC : Curves w w.heap.size A cs) :
    Calls Try.prog 34 #[.func (.func 49) #[] #[.pointer (some ⟨Bs, 0, none⟩)], .func (.func 36) #[] #[]] w fun e w' =>
      ∃ g cap, e = .returned (.slice (some ⟨g, 0, none⟩) (allLines cs).length cap) ∧ OwnL sendV 2 w' w.heap.size 44 (.slice (some ⟨g, 0, none⟩) (allLines cs).length cap) (CM.sortL (allLines cs)) ∧ Below w.heap.size w w' := by
  obtain ⟨i0, hi, hz0, hz1, hz2⟩ := info_parts lineInfo
  have HC := hidd hC
  have HN := hidd hne
  have HS := hidd hsort
  clear hC hne hsort
  refine (callsIn_wide (n := 6)).1 ?_
  refine callsIn_of_wp_marks Try.func34 rfl trivial ?_ rfl
  simp only [Try.ntmps34, List.size_toArray, List.length_cons, List.length_nil, Nat.reduceAdd, Nat.reduceSub, Array.replicate_succ, Array.replicate_zero, List.push_toArray, List.append_toArray, List.nil_append, List.cons_append]
  gi_wp2
  have bL := Boxed.new w 24 (.slice none 0 0)
  have hB0 : Below w.heap.size w (w.alloc (.cells #[.slice none 0 0] 24)) := (Below.refl _ w).alloc (Nat.le_refl _) _
  refine wpIn_rangeFunc_ownH rfl (by omega) (gf := 49) (lb := #[.pointer (some ⟨Bs, 0, none⟩)]) rfl trivial (enters_of Try.func49 (by kernel_rfl) rfl)
    (joined_stops Fence.wide (6 - 1) trivial rfl (by omega) Bs w.heap.size A k cs hlen hlen2 _ (by (first | omega | (simp; done) | (simp; omega))) (by (first | omega | (simp; done) | (simp; omega))) (by rw [hB0.cell (by simpa using hBs)]; exact hc) (HC.out.keep hB0)) belowK_t (belowK_b (by (first | omega | (simp; done) | (simp; omega)))) (Below.refl _ _) (fun _ => rfl)
    (fun pre W => (∃ v, Boxed W w.heap.size 24 v ∧ W.ownsRow w.heap.size 44 2 v pre.length (rowOf sendV pre) ∧ True) ∧ Below w.heap.size w W)
    (fun _ _ _ => False)
    (OwnFrom.and (Own.from (holdsRow_own w.heap.size w.heap.size 24 44 2 (fun pre => pre.length) (fun pre => rowOf sendV pre) (fun _ _ => True)) _) (ownFrom_below (Nat.le_refl _) (by (first | omega | (simp; done) | (simp; omega)))))
    (fun _ _ _ _ _ hs _ _ => hs)
    ⟨⟨_, bL, World.ownsRow_nil _ _ _ _, trivial⟩, hB0⟩
    (fun x a' W => ∃ Bx, w.heap.size < Bx ∧ LineBox W Bx x.1 x.2 ∧ a' = { tmps := #[.func (.func 49) #[] #[.pointer (some ⟨Bs, 0, none⟩)], .func (.func 36) #[] #[], undef, undef, .slice none 0 0, .pointer (some ⟨w.heap.size, 0, none⟩), .pointer (some ⟨Bx, 0, none⟩), .func (.func 49) #[] #[.pointer (some ⟨Bs, 0, none⟩)], .agg #[.int .i64 x.1, .int .i64 x.2], undef, undef, undef, undef, undef, undef, undef, undef], defers := [] })
    (fun x a' _ X Y row hs hg hr => by obtain ⟨Bx, h1, h2, h3⟩ := hs; exact ⟨Bx, h1, h2.kept2 hg (fun r e => (hr r e).2), h3⟩)
    ?assign ?body ?done ?stop
  case assign =>
    rintro l pre x W K ⟨⟨v, hv, hrow, _⟩, hB⟩ hK
    gi_wp2
    exact hK _ _ ((KeepsOthers.alloc _ _).from _) ((Below.refl _ W).alloc hB.size _) ⟨⟨_, hv.alloc _, hrow.alloc _, trivial⟩, hB.alloc hB.size _⟩ ⟨W.heap.size, hv.lt, LineBox.new W _ _ _, rfl⟩
  case body =>
    rintro l pre x a' W hl ⟨r, hr⟩ ⟨⟨v, hv, hrow, _⟩, hB⟩ ⟨Bx, hBx, ⟨hb, x0, x1⟩, rfl⟩ hlt
    have hcv := hv.cell
    have hp : pre.length < 1000000 := by omega
    obtain ⟨a0, a1⟩ := x
    dsimp only at x0 x1
    gi_wp2_with (gi_at_builtin; refine wpListIn_append_own _ rfl _ _ 24 rfl w.heap.size 44 i0 (.agg #[.int .i64 0, .int .i64 0]) 2 16 Try.underlying24 hi hz0 hz1 hz2 rfl (by decide) _ _ _ rfl (hrow.alloc _) ⟨W.heap.size, 0, none⟩ 1 1 [.int .i64 a0, .int .i64 a1] rfl rfl (cell_two_new _ _ _ _) (by simp [Value.oneCell']) (by unfold maxLen; omega) (by omega) (by have := hB.size; simp; omega) ?_; intro v' w1 hown' hgrow _; obtain ⟨g', cap', rfl⟩ := ownsRow_succ hown'; obtain ⟨hv1, hv2, hr2, hk2, hb2⟩ := hv.appended (by decide) hrow hB.size (Nat.le_refl _) hown' hgrow; have hc1 := hv1.cell; have hf1 := hv1.frozen)
    have hr3 : OwnL sendV 2 _ w.heap.size 44 _ (pre ++ [(a0, a1)]) := OwnL.snoc (f := sendV) (L := pre) (x := (a0, a1)) hr2 rfl rfl
    exact ⟨hk2.from _, hb2, And.intro ⟨_, hv2, hr3⟩ (hB.trans hb2)⟩
  case done =>
    rintro D ys W hD rfl ⟨⟨v, hv, hrow, _⟩, hB⟩ hK
    have hcv := hv.cell
    have hfv := hv.frozen
    obtain ⟨m, hm⟩ : ∃ m, (allLines cs).length = m + 1 := ⟨(allLines cs).length - 1, by have := List.length_pos_iff.2 HN.out; omega⟩
    have hrow2 := hrow
    rw [hm] at hrow2
    obtain ⟨g, cap, rfl⟩ := ownsRow_succ hrow2
    rw [← hm] at hcv hrow hv
    clear hrow2 hm
    have HO : Hid (OwnL sendV 2 W w.heap.size 44 (.slice (some ⟨g, 0, none⟩) (allLines cs).length cap) (allLines cs)) := hidd hrow
    have HV := hidd hv
    have HB := hidd hB
    have cS := hidd (HS.out g cap w.heap.size (allLines cs) W hall HO.out)
    clear hrow hv hB
    obtain ⟨hg0, hg1⟩ := HO.out.lt g rfl
    have hnr := HV.out.not_row (by decide) HO.out
    have hDg : D ≠ g := fun e => by
      subst e
      obtain ⟨_, h1⟩ := HO.out
      rcases h1 with ⟨h2, _⟩ | ⟨g', _, _, h2, _, h3, _⟩
      · cases h2
      · cases h2; rw [hK] at h3; cases h3
    have HD := hidd hDg
    have HNR := hidd hnr
    have HK := hidd hK
    clear hDg hnr hK
    gi_wp2
    refine ⟨trivial, ?_⟩
    refine (callsIn_wide.2 cS.out).mono ?_
    rintro e W2 ⟨rfl, hO2, hg2⟩
    have hV2 := HV.out.kept hg2 HNR.out
    have hcv2 := hV2.cell
    have hK2 : W2.heap[D]? = some (.deferred (some [])) := (hg2.block D (Array.getElem?_eq_some_iff.1 HK.out).1 (fun e => HD.out (by injection e))).trans HK.out
    have HK2 := hidd hK2
    have HO2 := hidd hO2
    have HG2 := hidd hg2
    clear hK2 hO2 hg2 hV2 hcv
    gi_wp2
    refine ⟨by simp, .inl ⟨_, _, rfl, run_takeDeferred HK2.out, ?_⟩⟩
    exact ⟨_, results_tmp rfl _ _ _, g, cap, rfl, And.intro (ownsRow_putObj HO2.out _ HK2.out rfl) ((HB.out.trans ((Below.refl w.heap.size W).grown HG2.out HB.out.size (fun k e => by injection e with e; omega))).trans (belowK_b (w := w) (Nat.le_refl _) W2 D _ _ (by simp at hD; omega) HK2.out rfl rfl))⟩
  case stop =>
    rintro D c pre W _ _ h _
    exact h.elim
end Go.Proofs.Ytpgaklfgbioocaa

namespace Go.Proofs.Ytpgaklfgbioocaa
set_option linter.unusedVariables false
open Go.RowKit Go.Proofs.Ytpgaklfgbioocaa.RowK

/-- may all of them be. -/
def MayAll (L : List (Int × Int)) : Prop := ∀ i, i < L.length → mayB (SM.av L i, SM.sv L i) = true
def RgtC (L : List (Int × Int)) : Prop := (1 ≤ L.length ∧ L.length ≤ 32) ∧ MayAll L ∧ Nrm L
theorem MayAll.all {L : List (Int × Int)} (h : MayAll L) : allMay L := fun i hi => by
  have := mayB_iff (h i hi)
  exact ⟨⟨this.1, by have := this.2.1; simp only at this; omega⟩, this.2.2.1, by have := this.2.2.2; simp only at this; omega⟩
def MayEnd (P : Prop) (w : World) (e : Ending) (w' : World) : Prop := ∃ R, e = .returned (.bool R) ∧ (R = true ↔ P) ∧ Below w.heap.size w w'
set_option maxRecDepth 100000 in
set_option maxHeartbeats 4000000 in
theorem right3_any (A : Option Addr) (L : List (Int × Int)) (c : Nat) (hL : L.length ≤ 1000000) (w : World) (hA : Lie sendV 2 w w.heap.size A L) :
    Calls Try.prog 6 #[.slice A L.length c] w (MayEnd (RgtC L) w) := by
  have HA := hidd hA
  have C := hidd (fun a b W => refMay_any a b W)
  obtain ⟨P, hP⟩ : ∃ P : Prop, RgtC L = P := ⟨_, rfl⟩
  rw [hP]
  have HP := hidd hP
  clear hA hP
  have CN := hidd (fun hm W hW => normal_any A L c hL hm W hW)
  by_cases hn : 1 ≤ L.length ∧ L.length ≤ 32
  case neg =>
    have hnp : ¬ P := fun h => hn (HP.out ▸ h : RgtC L).1
    have HNP := hidd hnp
    clear hnp
    by_cases h1 : L.length < 1
    · have h1' : (L.length : Int) < 1 := by omega
      clear hn
      go_enter Try.func6, Try.ntmps6
      go_wp2_with fail
      go_ret
      exact ⟨false, rfl, ⟨fun h => absurd h Bool.false_ne_true, fun h => absurd h HNP.out⟩, by (repeat' (first | (with_reducible exact Below.refl _ _) | (with_reducible assumption) | (with_reducible apply Below.setCell) | (with_reducible apply Below.alloc) | (with_reducible apply Below.drew) | (with_reducible apply below_drewN) | (with_reducible refine Below.trans ?_ (Below.mono (by assumption) ?_)) | omega | (simp; done) | (simp; omega)))⟩
    · have h1' : ¬ (L.length : Int) < 1 := by omega
      have h2' : (32 : Int) < (L.length : Int) := by omega
      clear hn
      go_enter Try.func6, Try.ntmps6
      go_wp2_with fail
      go_ret
      exact ⟨false, rfl, ⟨fun h => absurd h Bool.false_ne_true, fun h => absurd h HNP.out⟩, by (repeat' (first | (with_reducible exact Below.refl _ _) | (with_reducible assumption) | (with_reducible apply Below.setCell) | (with_reducible apply Below.alloc) | (with_reducible apply Below.drew) | (with_reducible apply below_drewN) | (with_reducible refine Below.trans ?_ (Below.mono (by assumption) ?_)) | omega | (simp; done) | (simp; omega)))⟩
  have h1' : ¬ (L.length : Int) < 1 := by omega
  have h2' : ¬ (32 : Int) < (L.length : Int) := by omega
  go_enter Try.func6, Try.ntmps6
  go_wp2_with fail
  go_loopg [3] (L.length + 2) (fun g s3 wr => ∃ i : Nat, i ≤ L.length ∧ i + g = L.length + 2 ∧ s3 = .int .i64 (i : Int) ∧ (∀ j, j < i → mayB (SM.av L j, SM.sv L j) = true) ∧ Below w.heap.size w wr)
  case atStart => exact ⟨0, by omega, by omega, rfl, fun j h => absurd h (by omega), Below.refl _ _⟩
  case round =>
    obtain ⟨i, hi1, hg, rfl, hs, hB⟩ := hrel
    have HG := hidd hg
    have HS := hidd hs
    have HB := hidd hB
    clear hg hs hB
    by_cases hin : i < L.length
    · have hin2 : (i : Int) < (L.length : Int) := by omega
      have hi0 : (0 : Int) ≤ (i : Int) := by omega
      obtain ⟨ad, rfl, ha, x0, x1⟩ := (HA.out.below HB.out).send i hin
      rw [(av_at hin).1] at x0
      rw [(av_at hin).2] at x1
      have hno : mayB (SM.av L i, SM.sv L i) = false → ¬ P := fun h hh => by
        rw [← HP.out] at hh
        have := hh.2.1 i hin
        rw [h] at this
        exact absurd this (by decide)
      have HNO := hidd hno
      have hst : mayB (SM.av L i, SM.sv L i) = true → ∀ k, k < i + 1 → mayB (SM.av L k, SM.sv L k) = true := fun h k k1 => by
        by_cases hk : k = i
        · subst hk; exact h
        · exact HS.out k (by omega)
      have HST := hidd hst
      clear hst
      have hBB := HB.out
      have hBs := hBB.size
      have ci := hidd (C.out (SM.av L i) (SM.sv L i))
      clear hno
      generalize SM.av L i = a0 at *
      generalize SM.sv L i = a1 at *
      obtain ⟨M, hM⟩ : ∃ M, mayB (a0, a1) = M := ⟨_, rfl⟩
      have HM := hidd hM
      rw [hM] at ci
      clear hM
      cases M
      · go_wp2_with fail
        refine (ci.out _).mono ?_
        rintro e w2 ⟨rfl, hb2⟩
        go_wp2_with fail
        go_ret
        have hnn := HNO.out HM.out
        exact ⟨false, rfl, ⟨fun h => absurd h Bool.false_ne_true, fun h => absurd h hnn⟩, by (repeat' (first | (with_reducible exact Below.refl _ _) | (with_reducible assumption) | (with_reducible apply Below.setCell) | (with_reducible apply Below.alloc) | (with_reducible apply Below.drew) | (with_reducible apply below_drewN) | (with_reducible refine Below.trans ?_ (Below.mono (by assumption) ?_)) | omega | (simp; done) | (simp; omega)))⟩
      · go_wp2_with fail
        refine (ci.out _).mono ?_
        rintro e w2 ⟨rfl, hb2⟩
        go_wp2_with fail
        have hg := HG.out
        go_roundg (gk - 1)
        case measure => omega
        case rel => exact ⟨i + 1, by omega, by omega, by go_num, HST.out HM.out, by (repeat' (first | (with_reducible exact Below.refl _ _) | (with_reducible assumption) | (with_reducible apply Below.setCell) | (with_reducible apply Below.alloc) | (with_reducible apply Below.drew) | (with_reducible apply below_drewN) | (with_reducible refine Below.trans ?_ (Below.mono (by assumption) ?_)) | omega | (simp; done) | (simp; omega)))⟩
    · have hin2 : ¬ (i : Int) < (L.length : Int) := by omega
      have hall : MayAll L := fun j h2 => HS.out j (by omega)
      have HALL := hidd hall
      have hk := HA.out.below HB.out
      have ci := hidd (CN.out hall.all)
      have HN := hidd hn
      have HK := hidd hk
      clear hall hk hn
      go_wp2_with fail
      refine (ci.out _ (by first | exact HK.out | exact HK.out.below (Below.drewN ..))).mono ?_
      rintro e w2 ⟨R, rfl, hR, hb2⟩
      have HR := hidd hR
      clear hR
      have hBB := HB.out
      have hBs := hBB.size
      go_wp2_with fail
      go_ret
      exact ⟨R, rfl, HR.out.trans (HP.out ▸ ⟨fun h => ⟨HN.out, HALL.out, h⟩, fun h => h.2.2⟩), by (repeat' (first | (with_reducible exact Below.refl _ _) | (with_reducible assumption) | (with_reducible apply Below.setCell) | (with_reducible apply Below.alloc) | (with_reducible apply Below.drew) | (with_reducible apply below_drewN) | (with_reducible refine Below.trans ?_ (Below.mono (by assumption) ?_)) | omega | (simp; done) | (simp; omega)))⟩
end Go.Proofs.Ytpgaklfgbioocaa

namespace Go.Proofs.Ytpgaklfgbioocaa
namespace CM
set_option linter.unusedVariables false

/-- where the i-th line ends; never, if it is the last one. -/
def nb (L : List (Int × Int)) (i : Nat) : Int × Int := if i + 1 < L.length then (bp L (i + 1), bq L (i + 1)) else (1, 0)
def wh (L M : List (Int × Int)) (i j : Nat) : Int := cmpV ((nb L i).1 * (nb M j).2) ((nb M j).1 * (nb L i).2)
def pr (L M : List (Int × Int)) (i j : Nat) : Int × Int := (SM.av L i + SM.av M j, SM.sv L i + SM.sv M j)
def ni (L M : List (Int × Int)) (i j : Nat) : Nat := if wh L M i j ≤ 0 then i + 1 else i
def nj (L M : List (Int × Int)) (i j : Nat) : Nat := if 0 ≤ wh L M i j then j + 1 else j
def togF (L M : List (Int × Int)) : Nat → Nat → Nat → List (Int × Int)
  | 0, _, _ => []
  | k + 1, i, j => if i + 1 < L.length ∨ j + 1 < M.length then pr L M (ni L M i j) (nj L M i j) :: togF L M k (ni L M i j) (nj L M i j) else []
def tog (L M : List (Int × Int)) : List (Int × Int) := pr L M 0 0 :: togF L M (L.length + M.length) 0 0
theorem togF_len (L M : List (Int × Int)) : ∀ k i j, (togF L M k i j).length ≤ k
  | 0, _, _ => Nat.le_refl _
  | k + 1, i, j => by
    unfold togF
    split
    · have := togF_len L M k (ni L M i j) (nj L M i j)
      simp
      exact this
    · simp
theorem tog_len (L M : List (Int × Int)) : (tog L M).length ≤ L.length + M.length + 1 := by
  have := togF_len L M (L.length + M.length) 0 0
  unfold tog
  simp
  exact this
theorem tog_pos (L M : List (Int × Int)) : 0 < (tog L M).length := by unfold tog; simp
theorem cmp_le {x y : Int} : cmpV x y ≤ 0 ↔ x ≤ y := by
  unfold cmpV
  split
  · simp; omega
  · split <;> simp <;> omega
theorem cmp_ge {x y : Int} : 0 ≤ cmpV x y ↔ y ≤ x := by
  unfold cmpV
  split
  · simp; omega
  · split <;> simp <;> omega
theorem nb_pos {L : List (Int × Int)} (h : AllN L) (i : Nat) : 0 < (nb L i).1 ∧ 0 ≤ (nb L i).2 ∧ (i + 1 < L.length → 0 < (nb L i).2) ∧ (¬ i + 1 < L.length → nb L i = (1, 0)) := by
  unfold nb
  by_cases g : i + 1 < L.length
  · rw [if_pos g]
    obtain ⟨h1, h2⟩ := bend_pos h (by omega : 1 ≤ i + 1) g
    exact ⟨h1, by show 0 ≤ bq L (i + 1); omega, fun _ => h2, fun n => absurd g n⟩
  · rw [if_neg g]
    exact ⟨by decide, by decide, fun n => absurd n g, fun _ => rfl⟩
theorem nb_next {L : List (Int × Int)} (h : AllN L) {i : Nat} (g : i + 1 < L.length) : (nb L i).1 * (nb L (i + 1)).2 < (nb L (i + 1)).1 * (nb L i).2 := by
  have e : nb L i = (bp L (i + 1), bq L (i + 1)) := by unfold nb; rw [if_pos g]
  by_cases k : i + 1 + 1 < L.length
  · have e2 : nb L (i + 1) = (bp L (i + 1 + 1), bq L (i + 1 + 1)) := by unfold nb; rw [if_pos k]
    rw [e, e2]
    exact bend_chain h (by omega : 1 ≤ i + 1) 0 k
  · rw [(nb_pos h (i + 1)).2.2.2 k]
    have := (nb_pos h i).2.2.1 g
    show (nb L i).1 * 0 < 1 * (nb L i).2
    omega
theorem wh_le {L M : List (Int × Int)} {i j : Nat} : wh L M i j ≤ 0 ↔ (nb L i).1 * (nb M j).2 ≤ (nb M j).1 * (nb L i).2 := cmp_le
theorem wh_ge {L M : List (Int × Int)} {i j : Nat} : 0 ≤ wh L M i j ↔ (nb M j).1 * (nb L i).2 ≤ (nb L i).1 * (nb M j).2 := cmp_ge
/-- the next pair: which of both goes on, and that it can. -/
theorem tog_next {L M : List (Int × Int)} (hL : AllN L) (hM : AllN M) {i j : Nat} (hi : i < L.length) (hj : j < M.length) (hc : i + 1 < L.length ∨ j + 1 < M.length) :
    (ni L M i j = i + 1 ∧ nj L M i j = j ∧ i + 1 < L.length ∧ (nb L i).1 * (nb M j).2 < (nb M j).1 * (nb L i).2) ∨
    (ni L M i j = i ∧ nj L M i j = j + 1 ∧ j + 1 < M.length ∧ (nb M j).1 * (nb L i).2 < (nb L i).1 * (nb M j).2) ∨
    (ni L M i j = i + 1 ∧ nj L M i j = j + 1 ∧ i + 1 < L.length ∧ j + 1 < M.length ∧ (nb L i).1 * (nb M j).2 = (nb M j).1 * (nb L i).2) := by
  obtain ⟨p1, p2, p3, p4⟩ := nb_pos hL i
  obtain ⟨q1, q2, q3, q4⟩ := nb_pos hM j
  have k1 : i + 1 < L.length ∨ (nb M j).1 * (nb L i).2 = 0 := by
    by_cases g : i + 1 < L.length
    · exact .inl g
    · right; rw [p4 g]; simp
  have k2 : j + 1 < M.length ∨ (nb L i).1 * (nb M j).2 = 0 := by
    by_cases g : j + 1 < M.length
    · exact .inl g
    · right; rw [q4 g]; simp
  have k3 : i + 1 < L.length → 0 < (nb M j).1 * (nb L i).2 := fun g => Int.mul_pos q1 (p3 g)
  have k4 : j + 1 < M.length → 0 < (nb L i).1 * (nb M j).2 := fun g => Int.mul_pos p1 (q3 g)
  unfold ni nj
  rcases Int.lt_trichotomy ((nb L i).1 * (nb M j).2) ((nb M j).1 * (nb L i).2) with h | h | h
  · left
    rw [if_pos (wh_le.2 (by omega)), if_neg (fun g => by have := wh_ge.1 g; omega)]
    refine ⟨rfl, rfl, ?_, h⟩
    rcases k1 with g | g
    · exact g
    · have : 0 ≤ (nb L i).1 * (nb M j).2 := Int.mul_nonneg (by omega) q2
      omega
  · right; right
    rw [if_pos (wh_le.2 (by omega)), if_pos (wh_ge.2 (by omega))]
    refine ⟨rfl, rfl, ?_, ?_, h⟩
    · rcases k1 with g | g
      · exact g
      · rcases hc with c | c
        · exact c
        · have := k4 c; omega
    · rcases k2 with g | g
      · exact g
      · rcases hc with c | c
        · have := k3 c; omega
        · exact c
  · right; left
    rw [if_neg (fun g => by have := wh_le.1 g; omega), if_pos (wh_ge.2 (by omega))]
    refine ⟨rfl, rfl, ?_, h⟩
    rcases k2 with g | g
    · exact g
    · have : 0 ≤ (nb M j).1 * (nb L i).2 := Int.mul_nonneg (by omega) p2
      omega
theorem tog_fuel {L M : List (Int × Int)} (hL : AllN L) (hM : AllN M) (P : Nat → Nat → List (Int × Int) → Prop)
    (hs : ∀ i j R, i < L.length → j < M.length → (i + 1 < L.length ∨ j + 1 < M.length) → P i j R → P (ni L M i j) (nj L M i j) (R ++ [pr L M (ni L M i j) (nj L M i j)])) :
    ∀ k i j R, i < L.length → j < M.length → L.length + M.length ≤ i + j + k → P i j R → ∃ i' j', i' + 1 = L.length ∧ j' + 1 = M.length ∧ P i' j' (R ++ togF L M k i j)
  | 0, i, j, R, hi, hj, hk, h => absurd hk (by omega)
  | k + 1, i, j, R, hi, hj, hk, h => by
    unfold togF
    by_cases hc : i + 1 < L.length ∨ j + 1 < M.length
    · rw [if_pos hc]
      have hn := hs i j R hi hj hc h
      have hr : ni L M i j < L.length ∧ nj L M i j < M.length ∧ i + j + 1 ≤ ni L M i j + nj L M i j := by
        rcases tog_next hL hM hi hj hc with ⟨a, b, c, d⟩ | ⟨a, b, c, d⟩ | ⟨a, b, c, d, e⟩ <;> rw [a, b] <;> omega
      have := tog_fuel hL hM P hs k _ _ _ hr.1 hr.2.1 (by omega) hn
      rwa [List.append_assoc, List.singleton_append] at this
    · rw [if_neg hc, List.append_nil]
      exact ⟨i, j, by omega, by omega, h⟩
theorem tog_ind {L M : List (Int × Int)} (hL : Nrm L) (hM : Nrm M) (P : Nat → Nat → List (Int × Int) → Prop) (h0 : P 0 0 [pr L M 0 0])
    (hs : ∀ i j R, i < L.length → j < M.length → (i + 1 < L.length ∨ j + 1 < M.length) → P i j R → P (ni L M i j) (nj L M i j) (R ++ [pr L M (ni L M i j) (nj L M i j)])) :
    ∃ i j, i + 1 = L.length ∧ j + 1 = M.length ∧ P i j (tog L M) :=
  tog_fuel hL.2 hM.2 P hs (L.length + M.length) 0 0 [pr L M 0 0] hL.1 hM.1 (by omega) h0
theorem av_app {R : List (Int × Int)} {x : Int × Int} {i : Nat} (h : i < R.length) : SM.av (R ++ [x]) i = SM.av R i ∧ SM.sv (R ++ [x]) i = SM.sv R i := by
  unfold SM.av SM.sv
  simp [List.getElem?_append_left h]
theorem av_end {R : List (Int × Int)} {x : Int × Int} : SM.av (R ++ [x]) R.length = x.1 ∧ SM.sv (R ++ [x]) R.length = x.2 := by
  unfold SM.av SM.sv
  simp
theorem snoc_nrm {R : List (Int × Int)} (hR : AllN R) (h0 : 0 < R.length) (b1 b2 : Int) (hb1 : 0 < b1) (hb2 : 0 < b2) (x : Int × Int) (hx : x.1 = SM.av R (R.length - 1) + b1) (hy : x.2 = SM.sv R (R.length - 1) - b2)
    (hr : 2 ≤ R.length → bp R (R.length - 1) * b2 < b1 * bq R (R.length - 1)) : AllN (R ++ [x]) ∧ bp (R ++ [x]) R.length = b1 ∧ bq (R ++ [x]) R.length = b2 := by
  obtain ⟨e1, e2⟩ := av_end (R := R) (x := x)
  obtain ⟨f1, f2⟩ := av_app (R := R) (x := x) (i := R.length - 1) (by omega)
  have k1 : bp (R ++ [x]) R.length = b1 := by unfold bp; rw [e1, f1, hx]; omega
  have k2 : bq (R ++ [x]) R.length = b2 := by unfold bq; rw [e2, f2, hy]; omega
  refine ⟨fun i h1 h2 => ?_, k1, k2⟩
  by_cases hi : i < R.length
  · exact (nrm_app hi).2 (hR i h1 hi)
  · have hi2 : i = R.length := by simp at h2; omega
    subst hi2
    refine ⟨⟨by rw [e1, f1]; omega, by rw [e2, f2]; omega⟩, fun h => ?_⟩
    obtain ⟨g1, g2⟩ := av_app (R := R) (x := x) (i := R.length - 2) (by omega)
    have q := hr h
    have k3 : SM.av (R ++ [x]) R.length - SM.av (R ++ [x]) (R.length - 1) = b1 := k1
    have k4 : SM.sv (R ++ [x]) (R.length - 1) - SM.sv (R ++ [x]) R.length = b2 := k2
    unfold bp bq at q
    rw [k3, k4, f1, f2, g1, g2]
    have e : R.length - 1 - 1 = R.length - 2 := by omega
    rw [e] at q
    exact q
theorem bend_eq {p1 p2 q1 q2 r1 r2 : Int} (hp : 0 < p2) (hq : 0 < q2) (h : p1 * q2 = q1 * p2) (g : p1 * r2 < r1 * p2) : q1 * r2 < r1 * q2 := by
  have k : q1 * r2 * p2 < r1 * q2 * p2 := by
    have e1 : q1 * r2 * p2 = p1 * r2 * q2 := by
      have : q1 * r2 * p2 = (q1 * p2) * r2 := by grind
      rw [this, ← h]; grind
    have e2 : r1 * q2 * p2 = r1 * p2 * q2 := by grind
    rw [e1, e2]
    exact Int.mul_lt_mul_of_pos_right g hq
  exact Int.lt_of_mul_lt_mul_right k (by omega)
def TogInv (L M : List (Int × Int)) (i j : Nat) (R : List (Int × Int)) : Prop :=
  0 < R.length ∧ (SM.av R (R.length - 1) = SM.av L i + SM.av M j ∧ SM.sv R (R.length - 1) = SM.sv L i + SM.sv M j) ∧ AllN R ∧
  (2 ≤ R.length → bp R (R.length - 1) * (nb L i).2 < (nb L i).1 * bq R (R.length - 1) ∧ bp R (R.length - 1) * (nb M j).2 < (nb M j).1 * bq R (R.length - 1))
theorem nb_step {L : List (Int × Int)} {i : Nat} (h : i + 1 < L.length) : SM.av L (i + 1) = SM.av L i + (nb L i).1 ∧ SM.sv L (i + 1) = SM.sv L i - (nb L i).2 := by
  unfold nb
  rw [if_pos h]
  unfold bp bq
  simp only [Nat.add_sub_cancel]
  omega
theorem tog_inv {L M : List (Int × Int)} (hL : Nrm L) (hM : Nrm M) : ∃ i j, i + 1 = L.length ∧ j + 1 = M.length ∧ TogInv L M i j (tog L M) := by
  refine tog_ind hL hM (TogInv L M) ?_ ?_
  · refine ⟨by simp, by simp [pr, SM.av, SM.sv], fun i h1 h2 => absurd h2 (by simp; omega), fun h => absurd h (by simp)⟩
  · rintro i j R hi hj hc ⟨h0, ⟨ha, hs⟩, hR, hb⟩
    obtain ⟨p1, p2, p3, p4⟩ := nb_pos hL.2 i
    obtain ⟨q1, q2, q3, q4⟩ := nb_pos hM.2 j
    have hlast : ∀ x, (R ++ [x]).length - 1 = R.length := fun x => by simp
    rcases tog_next hL.2 hM.2 hi hj hc with ⟨a, b, c, d⟩ | ⟨a, b, c, d⟩ | ⟨a, b, c, e, d⟩
    · rw [a, b]
      obtain ⟨s1, s2⟩ := nb_step c
      obtain ⟨k1, k2, k3⟩ := snoc_nrm hR h0 (nb L i).1 (nb L i).2 p1 (p3 c) (pr L M (i + 1) j) (by unfold pr; rw [ha]; simp only; omega) (by unfold pr; rw [hs]; simp only; omega) (fun h => (hb h).1)
      refine ⟨by simp, ?_, k1, fun _ => ?_⟩
      · rw [hlast, av_end.1, av_end.2]; exact ⟨rfl, rfl⟩
      · rw [hlast, k2, k3]; exact ⟨nb_next hL.2 c, d⟩
    · rw [a, b]
      obtain ⟨s1, s2⟩ := nb_step c
      obtain ⟨k1, k2, k3⟩ := snoc_nrm hR h0 (nb M j).1 (nb M j).2 q1 (q3 c) (pr L M i (j + 1)) (by unfold pr; rw [ha]; simp only; omega) (by unfold pr; rw [hs]; simp only; omega) (fun h => (hb h).2)
      refine ⟨by simp, ?_, k1, fun _ => ?_⟩
      · rw [hlast, av_end.1, av_end.2]; exact ⟨rfl, rfl⟩
      · rw [hlast, k2, k3]; exact ⟨d, nb_next hM.2 c⟩
    · rw [a, b]
      obtain ⟨s1, s2⟩ := nb_step c
      obtain ⟨t1, t2⟩ := nb_step e
      have n1 := nb_next hL.2 c
      have n2 := nb_next hM.2 e
      have m1 := bend_eq (p3 c) (q3 e) d n1
      have m2 := bend_eq (q3 e) (p3 c) d.symm n2
      obtain ⟨k1, k2, k3⟩ := snoc_nrm hR h0 ((nb L i).1 + (nb M j).1) ((nb L i).2 + (nb M j).2) (by omega) (by have := p3 c; have := q3 e; omega) (pr L M (i + 1) (j + 1)) (by unfold pr; rw [ha]; simp only; omega) (by unfold pr; rw [hs]; simp only; omega) (fun h => by
        have := hb h
        rw [Int.mul_add, Int.add_mul]
        omega)
      refine ⟨by simp, ?_, k1, fun _ => ?_⟩
      · rw [hlast, av_end.1, av_end.2]; exact ⟨rfl, rfl⟩
      · rw [hlast, k2, k3, Int.add_mul, Int.mul_add, Int.add_mul, Int.mul_add]; exact ⟨by omega, by omega⟩
theorem tog_nrm {L M : List (Int × Int)} (hL : Nrm L) (hM : Nrm M) : Nrm (tog L M) := by
  obtain ⟨i, j, hi, hj, h0, _, h, _⟩ := tog_inv hL hM
  exact ⟨h0, h⟩
theorem tog_mem {L M : List (Int × Int)} (hL : Nrm L) (hM : Nrm M) : ∀ x ∈ tog L M, ∃ i j, i < L.length ∧ j < M.length ∧ x = pr L M i j := by
  obtain ⟨i, j, _, _, h⟩ := tog_ind hL hM (fun _ _ R => ∀ x ∈ R, ∃ i j, i < L.length ∧ j < M.length ∧ x = pr L M i j) (fun x hx => ⟨0, 0, hL.1, hM.1, by simpa using hx⟩) (fun i j R hi hj hc h x hx => by
    rcases List.mem_append.1 hx with g | g
    · exact h x g
    · refine ⟨_, _, ?_, ?_, by simpa using g⟩
      · rcases tog_next hL.2 hM.2 hi hj hc with ⟨a, b, c, d⟩ | ⟨a, b, c, d⟩ | ⟨a, b, c, e, d⟩ <;> rw [a] <;> omega
      · rcases tog_next hL.2 hM.2 hi hj hc with ⟨a, b, c, d⟩ | ⟨a, b, c, d⟩ | ⟨a, b, c, e, d⟩ <;> rw [b] <;> omega)
  exact h
theorem tog_zero {M : List (Int × Int)} (hM : Nrm M) : tog [(0, 0)] M = M := by
  have hZ : Nrm [((0 : Int), (0 : Int))] := ⟨by simp, fun i h1 h2 => absurd h2 (by simp; omega)⟩
  obtain ⟨i, j, hi, hj, rfl, h⟩ := tog_ind hZ hM (fun i j R => i = 0 ∧ R = M.take (j + 1)) (by
    refine ⟨rfl, ?_⟩
    have := hM.1
    obtain ⟨x, xs, rfl⟩ : ∃ x xs, M = x :: xs := by cases M with | nil => simp at this | cons x xs => exact ⟨x, xs, rfl⟩
    simp [pr, SM.av, SM.sv]) (by
    rintro i j R hi hj hc ⟨rfl, rfl⟩
    have hc' : j + 1 < M.length := by simpa using hc
    rcases tog_next hZ.2 hM.2 hi hj hc with ⟨a, b, c, d⟩ | ⟨a, b, c, d⟩ | ⟨a, b, c, e, d⟩
    · simp at c
    · refine ⟨a, ?_⟩
      rw [a, b, List.take_succ_eq_append_getElem hc']
      congr 1
      unfold pr
      rw [(at_get hc').1, (at_get hc').2]
      simp [SM.av, SM.sv]
    · simp at c)
  rw [h, hj, List.take_length]
theorem nrm_mono {L : List (Int × Int)} (h : AllN L) : ∀ k i, i + k < L.length → SM.av L i ≤ SM.av L (i + k) ∧ SM.sv L (i + k) ≤ SM.sv L i
  | 0, i, _ => ⟨Int.le_refl _, Int.le_refl _⟩
  | k + 1, i, hk => by
    have := nrm_mono h k i (by omega)
    have g := (h (i + k + 1) (by omega) (by omega)).1
    simp only [Nat.add_sub_cancel] at g
    rw [← Nat.add_assoc]
    omega
end CM
end Go.Proofs.Ytpgaklfgbioocaa

namespace Go.Proofs.Ytpgaklfgbioocaa
set_option linter.unusedVariables false
open Go.RowKit Go.Proofs.Ytpgaklfgbioocaa.RowK

theorem own_one (w : World) (base : Nat) (hb : base ≤ w.heap.size) (e : TypeId) (x y : Int) : OwnL sendV 2 (w.alloc (.cells #[.int .i64 x, .int .i64 y] e)) base e (.slice (some ⟨w.heap.size, 0, none⟩) 1 1) [(x, y)] :=
  ⟨rfl, .inr ⟨w.heap.size, 1, #[.int .i64 x, .int .i64 y], rfl, hb, heap_alloc_new _ _, by simp, by simp [maxLen], rfl, rfl⟩⟩
theorem plus_any (a0 a1 b0 b1 : Int) (h0 : 0 ≤ a0) (h1 : a0 ≤ 2000000000) (h2 : 0 ≤ a1) (h3 : a1 ≤ 2000000000) (k0 : 0 ≤ b0) (k1 : b0 ≤ 2000000000) (k2 : 0 ≤ b1) (k3 : b1 ≤ 2000000000) (w : World) :
    Calls Try.prog 41 #[.agg #[.int .i64 a0, .int .i64 a1], .agg #[.int .i64 b0, .int .i64 b1]] w fun e w' => e = .returned (.agg #[.int .i64 (a0 + b0), .int .i64 (a1 + b1)]) ∧ Below w.heap.size w w' := by
  go_enter Try.func41, Try.ntmps41
  go_wp2_with fail
  exact bodyPost_ret (v := .agg #[.int .i64 (a0 + b0), .int .i64 (a1 + b1)]) (by simp [results, Try.results41, go_sem]) rfl ⟨rfl, by (repeat' (first | (with_reducible exact Below.refl _ _) | (with_reducible assumption) | (with_reducible apply Below.setCell) | (with_reducible apply Below.alloc) | (with_reducible apply Below.drew) | (with_reducible apply below_drewN) | (with_reducible refine Below.trans ?_ (Below.mono (by assumption) ?_)) | omega | (simp; done) | (simp; omega)))⟩
/-- the lines of a list that lies there. -/
theorem Lie.two {w : World} {B : Nat} {ad : Addr} {L : List (Int × Int)} (h : Lie sendV 2 w B (some ad) L) (h0 : 0 < L.length) : ad.block < B ∧ (w.cell? ad = some (.int .i64 (SM.av L 0)) ∧ w.cell? ⟨ad.block, ad.off + 1, none⟩ = some (.int .i64 (SM.sv L 0))) ∧
    (1 < L.length → w.cell? ⟨ad.block, ad.off + 2, none⟩ = some (.int .i64 (SM.av L 1)) ∧ w.cell? ⟨ad.block, ad.off + 2 + 1, none⟩ = some (.int .i64 (SM.sv L 1))) := by
  obtain ⟨ad', e, hB, x0, x1⟩ := h.send 0 h0
  obtain rfl : ad = ad' := by injection e
  have e0 : ad.add (0 * 2) = ad := by simp [Addr.add]
  rw [e0, (av_at h0).1] at x0
  rw [e0, (av_at h0).2] at x1
  refine ⟨hB, ⟨x0, x1⟩, fun h1 => ?_⟩
  obtain ⟨ad', e, hB, y0, y1⟩ := h.send 1 h1
  obtain rfl : ad = ad' := by injection e
  have e1 : ad.add (1 * 2) = ⟨ad.block, ad.off + 2, none⟩ := rfl
  rw [e1, (av_at h1).1] at y0
  rw [e1, (av_at h1).2] at y1
  exact ⟨y0, y1⟩
theorem av_drop (L : List (Int × Int)) (i k : Nat) : SM.av (L.drop i) k = SM.av L (i + k) ∧ SM.sv (L.drop i) k = SM.sv L (i + k) := by
  unfold SM.av SM.sv
  simp [List.getD_eq_getElem?_getD, List.getElem?_drop]
theorem nb_drop (L : List (Int × Int)) (i : Nat) : CM.nb (L.drop i) 0 = CM.nb L i := by
  unfold CM.nb CM.bp CM.bq
  obtain ⟨a0, a1⟩ := av_drop L i 0
  obtain ⟨b0, b1⟩ := av_drop L i 1
  by_cases h : i + 1 < L.length
  · rw [if_pos h, if_pos (by simp; omega)]
    simp only [Nat.zero_add, Nat.sub_self, Nat.add_sub_cancel]
    rw [a0, a1, b0, b1]
    rfl
  · rw [if_neg h, if_neg (by simp; omega)]
/-- a new box of two, behind a draw and a call. -/
theorem GB.new (w : World) : ∀ W', Below (w.alloc (.cells #[.int .i64 0, .int .i64 0] 66)).drew.heap.size (w.alloc (.cells #[.int .i64 0, .int .i64 0] 66)).drew W' → W'.cell? ⟨w.heap.size, 0, none⟩ = some (.int .i64 0) ∧ W'.cell? ⟨w.heap.size, 1, none⟩ = some (.int .i64 0) ∧ W'.frozen? ⟨w.heap.size, 0, none⟩ = false ∧ W'.frozen? ⟨w.heap.size, 1, none⟩ = false := fun W' hb => by
  have h0 := hb.cell (p := ⟨w.heap.size, 0, none⟩) (by simp [go_sem])
  have h1 := hb.cell (p := ⟨w.heap.size, 1, none⟩) (by simp [go_sem])
  have f0 := hb.frozen (p := ⟨w.heap.size, 0, none⟩) (by simp [go_sem])
  have f1 := hb.frozen (p := ⟨w.heap.size, 1, none⟩) (by simp [go_sem])
  exact ⟨h0.trans (by simp [go_sem]), h1.trans (by simp [go_sem]), f0.trans (by simp [go_sem]), f1.trans (by simp [go_sem])⟩
set_option maxHeartbeats 2000000 in
theorem nextBend_any (ad : Addr) (M : List (Int × Int)) (n c : Nat) (hn : M.length = n) (h0 : 0 < n) (hok : ∀ i, i < M.length → 0 ≤ SM.av M i ∧ SM.av M i ≤ 2000000000 ∧ 0 ≤ SM.sv M i ∧ SM.sv M i ≤ 2000000000) (w : World) (hA : Lie sendV 2 w w.heap.size (some ad) M) :
    Calls Try.prog 42 #[.slice (some ad) n c] w fun e w' => e = .returned (.agg #[.int .i64 (CM.nb M 0).1, .int .i64 (CM.nb M 0).2]) ∧ Below w.heap.size w w' := by
  obtain ⟨hB, ⟨x0, x1⟩, h1⟩ := hA.two (by omega)
  by_cases hone : n = 1
  · have e : CM.nb M 0 = (1, 0) := by unfold CM.nb; rw [if_neg (by omega)]
    rw [e]
    subst hone
    clear hok h1 e hA hn x0 x1
    go_enter Try.func42, Try.ntmps42
    go_wp2_with fail
    exact bodyPost_ret (v := .agg #[.int .i64 1, .int .i64 0]) (by simp [results, Try.results42, go_sem]) rfl ⟨rfl, by (repeat' (first | (with_reducible exact Below.refl _ _) | (with_reducible assumption) | (with_reducible apply Below.setCell) | (with_reducible apply Below.alloc) | (with_reducible apply Below.drew) | (with_reducible apply below_drewN) | (with_reducible refine Below.trans ?_ (Below.mono (by assumption) ?_)) | omega | (simp; done) | (simp; omega)))⟩
  · obtain ⟨y0, y1⟩ := h1 (by omega)
    have e : CM.nb M 0 = (SM.av M 1 - SM.av M 0, SM.sv M 0 - SM.sv M 1) := by unfold CM.nb CM.bp CM.bq; rw [if_pos (by omega)]
    rw [e]
    obtain ⟨p0, p1, p2, p3⟩ := hok 0 (by omega)
    obtain ⟨q0, q1, q2, q3⟩ := hok 1 (by omega)
    have hn1 : 1 < n := by omega
    have cb := hidd (fun W => bendOf_any (SM.av M 0) (SM.sv M 0) (SM.av M 1) (SM.sv M 1) p0 p1 p2 p3 q0 q1 q2 q3 W)
    have hone2 : ((n : Int) == 1) = false := by simp; omega
    have hn2 : (1 : Int) < (n : Int) := by omega
    clear hok h1 e hA hn p0 p1 p2 p3 q0 q1 q2 q3
    generalize SM.av M 0 = a0 at *
    generalize SM.sv M 0 = a1 at *
    generalize SM.av M 1 = b0 at *
    generalize SM.sv M 1 = b1 at *
    have KEEP := hidd (fun W' (hb : Below w.heap.size w W') => (show W'.cell? ad = some (.int .i64 a0) ∧ W'.cell? ⟨ad.block, ad.off + 1, none⟩ = some (.int .i64 a1) ∧ W'.cell? ⟨ad.block, ad.off + 2, none⟩ = some (.int .i64 b0) ∧ W'.cell? ⟨ad.block, ad.off + 2 + 1, none⟩ = some (.int .i64 b1) from ⟨(hb.cell (p := ad) hB).trans x0, (hb.cell (p := ⟨ad.block, ad.off + 1, none⟩) hB).trans x1, (hb.cell (p := ⟨ad.block, ad.off + 2, none⟩) hB).trans y0, (hb.cell (p := ⟨ad.block, ad.off + 2 + 1, none⟩) hB).trans y1⟩))
    obtain ⟨z0, z1, z2, z3⟩ := KEEP.out _ (below_new (Below.refl w.heap.size w) (.cells #[.int .i64 0, .int .i64 0] 66))
    have hz : ¬ ad.block = w.heap.size := by omega
    go_enter Try.func42, Try.ntmps42
    go_wp2_with fail
    have HG := hidd (GB.new w)
    go_region_held3 (fun w' => w'.cell? ad = some (.int .i64 a0) ∧ w'.cell? ⟨ad.block, ad.off + 1, none⟩ = some (.int .i64 a1) ∧ w'.cell? ⟨ad.block, ad.off + 2, none⟩ = some (.int .i64 b0) ∧ w'.cell? ⟨ad.block, ad.off + 2 + 1, none⟩ = some (.int .i64 b1))
      ((first | exact KEEP.out _ cum1 | exact KEEP.out _ ((cum1.setCell (Nat.le_refl _) _).setCell (Nat.le_refl _) _) | exact ⟨z0, z1, z2, z3⟩ | go_keep))
      ((first
        | (go_at_call 39; refine (cb.out _).mono ?_; rintro E1 y1 ⟨rfl, l1⟩; have cum1 : Below w.heap.size w y1 := (by first | exact below_step (Below.drew (below_new (Below.refl _ _) _)) l1 | exact below_step (below_new (Below.refl _ _) _) l1); obtain ⟨g0, g1, g2, g3⟩ := HG.out _ l1)))
    all_goals go_wp2_with fail
    all_goals exact bodyPost_ret (v := .agg #[.int .i64 (b0 - a0), .int .i64 (a1 - b1)]) (by simp [results, Try.results42, go_sem, *]) rfl ⟨rfl, by (repeat' (first | (with_reducible exact Below.refl _ _) | (with_reducible assumption) | (with_reducible apply Below.setCell) | (with_reducible apply Below.alloc) | (with_reducible apply Below.drew) | (with_reducible apply below_drewN) | (with_reducible refine Below.trans ?_ (Below.mono (by assumption) ?_)) | omega | (simp; done) | (simp; omega)))⟩
end Go.Proofs.Ytpgaklfgbioocaa

namespace Go.Proofs.Ytpgaklfgbioocaa
set_option linter.unusedVariables false
open Go.RowKit Go.Proofs.Ytpgaklfgbioocaa.RowK

def TogAt (w : World) (B : Nat) (L : List (Int × Int)) (i : Nat) (v : Value) : Prop :=
  ∃ (ad : Addr) (n c : Nat), v = .slice (some ad) n c ∧ n + i = L.length ∧ (1 ≤ n ∧ n ≤ c ∧ c ≤ maxLen) ∧ Lie sendV 2 w B (some ad) (L.drop i)
theorem drop_tail2 {w : World} {B : Nat} {ad : Addr} {L : List (Int × Int)} {i : Nat} (h : Lie sendV 2 w B (some ad) (L.drop i)) : Lie sendV 2 w B (some ⟨ad.block, ad.off + 2, none⟩) (L.drop (i + 1)) := by
  have g : Lie sendV 2 w B (some ⟨ad.block, ad.off + 2, none⟩) (L.drop i).tail := fun hl => by
    obtain ⟨ad', e, hB, hc⟩ := h (by cases hx : L.drop i <;> simp_all)
    obtain rfl : ad = ad' := by injection e
    refine ⟨_, rfl, hB, fun k x hx j v hv => ?_⟩
    have e2 : Addr.add ⟨ad.block, ad.off + 2, none⟩ (k * 2 + j) = ad.add ((k + 1) * 2 + j) := by
      have : (⟨ad.block, ad.off + 2, none⟩ : Addr) = ad.add 2 := rfl
      rw [this, add_of_add]; congr 1; omega
    rw [e2]
    exact hc (k + 1) x (by rw [← hx]; cases L.drop i <;> simp) j v hv
  rwa [List.tail_drop] at g
theorem may_at {L : List (Int × Int)} (h : MayAll L) {i : Nat} (hi : i < L.length) : 0 ≤ SM.av L i ∧ SM.av L i ≤ 1000000000 ∧ 0 ≤ SM.sv L i ∧ SM.sv L i ≤ 1000000000 := by
  have := mayB_iff (h i hi)
  exact this
theorem may_drop {L : List (Int × Int)} (h : MayAll L) (i : Nat) : ∀ k, k < (L.drop i).length → 0 ≤ SM.av (L.drop i) k ∧ SM.av (L.drop i) k ≤ 2000000000 ∧ 0 ≤ SM.sv (L.drop i) k ∧ SM.sv (L.drop i) k ≤ 2000000000 := fun k hk => by
  have := may_at h (show i + k < L.length by simp at hk; omega)
  rw [(av_drop L i k).1, (av_drop L i k).2]
  omega
theorem nb_bd {L : List (Int × Int)} (h : MayAll L) (i : Nat) : -2000000000 ≤ (CM.nb L i).1 ∧ (CM.nb L i).1 ≤ 2000000000 ∧ -2000000000 ≤ (CM.nb L i).2 ∧ (CM.nb L i).2 ≤ 2000000000 := by
  unfold CM.nb
  by_cases g : i + 1 < L.length
  · rw [if_pos g]
    have a := may_at h g
    have b := may_at h (show i < L.length by omega)
    unfold CM.bp CM.bq
    simp only [Nat.add_sub_cancel]
    omega
  · rw [if_neg g]
    decide
theorem bstep {B : Nat} {w a b : World} (hw : B ≤ w.heap.size) (t : Below B w a) (h : Below a.heap.size a b) : Below B w b := t.trans (h.mono (Nat.le_trans hw t.size))
set_option maxRecDepth 100000 in
set_option maxHeartbeats 8000000 in
theorem together_any (ad bd : Addr) (L M : List (Int × Int)) (c d : Nat) (hL : RgtC L) (hM : RgtC M) (hc : L.length ≤ c) (hcm : c ≤ maxLen) (hd : M.length ≤ d) (hdm : d ≤ maxLen) (w : World) (hA : Lie sendV 2 w w.heap.size (some ad) L) (hB : Lie sendV 2 w w.heap.size (some bd) M) :
    Calls Try.prog 24 #[.slice (some ad) L.length c, .slice (some bd) M.length d] w fun e w' => ∃ v, e = .returned v ∧ OwnL sendV 2 w' w.heap.size 44 v (CM.tog L M) ∧ Below w.heap.size w w' := by
  obtain ⟨i0, hi0, hz0, hz1, hz2⟩ := info_parts lineInfo
  have hl0 : 0 < L.length := hL.1.1
  have hm0 : 0 < M.length := hM.1.1
  have hl32 : L.length ≤ 32 := hL.1.2
  have hm32 : M.length ≤ 32 := hM.1.2
  have HL := hidd hL
  have HM := hidd hM
  have hlies := hidd (And.intro (show Lie sendV 2 w w.heap.size (some ad) (L.drop 0) by simpa using hA) (show Lie sendV 2 w w.heap.size (some bd) (M.drop 0) by simpa using hB))
  obtain ⟨ha9, ⟨x0, x1⟩, _⟩ := hA.two hl0
  obtain ⟨hb9, ⟨y0, y1⟩, _⟩ := hB.two hm0
  have cp := hidd (fun i j (hi : i < L.length) (hj : j < M.length) W => by
    have u := may_at hL.2.1 hi
    have v := may_at hM.2.1 hj
    exact plus_any (SM.av L i) (SM.sv L i) (SM.av M j) (SM.sv M j) u.1 (by omega) u.2.2.1 (by omega) v.1 (by omega) v.2.2.1 (by omega) W)
  have cn := hidd (fun ad n c i (hn : n + i = L.length) (h0 : 0 < n) W (h : Lie sendV 2 W W.heap.size (some ad) (L.drop i)) => nextBend_any ad (L.drop i) n c (by simp; omega) h0 (may_drop hL.2.1 i) W h)
  have cm := hidd (fun ad n c j (hn : n + j = M.length) (h0 : 0 < n) W (h : Lie sendV 2 W W.heap.size (some ad) (M.drop j)) => nextBend_any ad (M.drop j) n c (by simp; omega) h0 (may_drop hM.2.1 j) W h)
  have cg := hidd (fun i j W => against_any (CM.nb L i).1 (CM.nb L i).2 (CM.nb M j).1 (CM.nb M j).2 (nb_bd hL.2.1 i) (nb_bd hM.2.1 j) W)
  have htog := hidd (show [CM.pr L M 0 0] ++ CM.togF L M (L.length + M.length) 0 0 = CM.tog L M from rfl)
  have hlen := hidd (CM.tog_len L M)
  have CP0 := hidd (fun W => cp.out 0 0 hl0 hm0 W)
  have hl1 : (0 : Int) < (L.length : Int) := by omega
  have hm1 : (0 : Int) < (M.length : Int) := by omega
  obtain ⟨pl, hpl⟩ : ∃ k, L.length = k := ⟨_, rfl⟩
  obtain ⟨pm, hpm⟩ : ∃ k, M.length = k := ⟨_, rfl⟩
  clear hL hM hA hB
  have PR := hidd (show CM.pr L M 0 0 = (SM.av L 0 + SM.av M 0, SM.sv L 0 + SM.sv M 0) from rfl)
  generalize SM.av L 0 = a0 at *
  generalize SM.sv L 0 = a1 at *
  generalize SM.av M 0 = b0 at *
  generalize SM.sv M 0 = b1 at *
  have KEEP := hidd (fun W' (hb : Below w.heap.size w W') => (show (W'.cell? ad = some (.int .i64 a0) ∧ W'.cell? ⟨ad.block, ad.off + 1, none⟩ = some (.int .i64 a1)) ∧ W'.cell? bd = some (.int .i64 b0) ∧ W'.cell? ⟨bd.block, bd.off + 1, none⟩ = some (.int .i64 b1) from ⟨⟨(hb.cell (p := ad) ha9).trans x0, (hb.cell (p := ⟨ad.block, ad.off + 1, none⟩) ha9).trans x1⟩, (hb.cell (p := bd) hb9).trans y0, (hb.cell (p := ⟨bd.block, bd.off + 1, none⟩) hb9).trans y1⟩))
  rw [hpl] at hc hl0 hl32 hl1
  rw [hpm] at hd hm0 hm32 hm1
  rw [hpl, hpm]
  have HPL := hidd hpl
  have HPM := hidd hpm
  clear hpl hpm
  go_enter Try.func24, Try.ntmps24
  go_wp2_with fail
  go_region_held3 (fun w' => (w'.cell? ad = some (.int .i64 a0) ∧ w'.cell? ⟨ad.block, ad.off + 1, none⟩ = some (.int .i64 a1)) ∧ w'.cell? bd = some (.int .i64 b0) ∧ w'.cell? ⟨bd.block, bd.off + 1, none⟩ = some (.int .i64 b1))
    ((first | exact KEEP.out _ (below_new cum1 _) | exact KEEP.out _ cum1 | exact ⟨⟨x0, x1⟩, y0, y1⟩ | go_keep))
    ((first
      | (go_at_call 41; refine (CP0.out _).mono ?_; rintro E1 w1 ⟨rfl, l1⟩; have cum1 : Below w.heap.size w w1 := (by first | exact below_step (Below.drew (Below.refl _ _)) l1 | exact below_step (Below.refl _ _) l1))))
  all_goals have HB0 := hidd (below_new cum1 (.cells #[.int .i64 (a0 + b0), .int .i64 (a1 + b1)] 44))
  all_goals have HO0 := hidd (own_one w1 w.heap.size cum1.size 44 (a0 + b0) (a1 + b1))
  all_goals clear l1 cum1 x0 x1 y0 y1
  all_goals have HR0 := hidd (show [(a0 + b0, a1 + b1)] ++ CM.togF L M (L.length + M.length) 0 0 = CM.tog L M from by rw [← PR.out]; exact htog.out)
  all_goals go_wp2_with fail
  all_goals go_loopg [0, 1, 5] (L.length + M.length) (fun g s0 s1 s5 wr => ∃ (i j : Nat) (R : List (Int × Int)), (i < L.length ∧ j < M.length) ∧ L.length + M.length ≤ i + j + g ∧ R ++ CM.togF L M g i j = CM.tog L M ∧ TogAt wr w.heap.size L i s0 ∧ TogAt wr w.heap.size M j s1 ∧ OwnL sendV 2 wr w.heap.size 44 s5 R ∧ Below w.heap.size w wr)
  case atStart =>
    refine ⟨0, 0, [(a0 + b0, a1 + b1)], ⟨by rw [HPL.out]; exact hl0, by rw [HPM.out]; exact hm0⟩, by omega, HR0.out, ⟨ad, pl, c, rfl, by rw [HPL.out]; rfl, ⟨hl0, hc, hcm⟩, ?_⟩, ⟨bd, pm, d, rfl, by rw [HPM.out]; rfl, ⟨hm0, hd, hdm⟩, ?_⟩, HO0.out, HB0.out⟩
    · exact hlies.out.1.keep HB0.out
    · exact hlies.out.2.keep HB0.out
  case round =>
    clear CP0 KEEP HB0 HO0 HR0 PR htog hlies
    obtain ⟨i, j, R, ⟨hi, hj⟩, hg, hR, ⟨xd, n, cx, rfl, hn, ⟨n1, n2, n3⟩, hX⟩, ⟨yd, m, cy, rfl, hm, ⟨m1, m2, m3⟩, hY⟩, hO, hB⟩ := hrel
    have HG := hidd hg
    have HRR := hidd hR
    have HI := hidd hi
    have HJ := hidd hj
    have HX := hidd hX
    have HY := hidd hY
    have HO := hidd hO
    have HB := hidd hB
    have HN := hidd hn
    have HMn := hidd hm
    have hrl : R.length ≤ 65 := by
      have e := congrArg List.length hR
      rw [List.length_append] at e
      have := hlen.out
      rw [HPL.out, HPM.out] at this
      omega
    by_cases hc2 : i + 1 < L.length ∨ j + 1 < M.length
    · have hstep : CM.togF L M gk i j = CM.pr L M (CM.ni L M i j) (CM.nj L M i j) :: CM.togF L M (gk - 1) (CM.ni L M i j) (CM.nj L M i j) := by
        obtain ⟨g', rfl⟩ : ∃ g', gk = g' + 1 := ⟨gk - 1, by rw [HPL.out, HPM.out] at hg; have := HPL.out ▸ hi; have := HPM.out ▸ hj; omega⟩
        rw [Nat.add_sub_cancel]
        conv => lhs; unfold CM.togF
        rw [if_pos hc2]
      have HST := hidd hstep
      have hnx := CM.tog_next HL.out.2.2.2 HM.out.2.2.2 hi hj hc2
      have CN := hidd (fun W h => cn.out xd n cx i hn (by omega) W h)
      have CMm := hidd (fun W h => cm.out yd m cy j hm (by omega) W h)
      rw [nb_drop] at CN CMm
      have CG := hidd (fun W => cg.out i j W)
      have hW : ∃ V, cmpV ((CM.nb L i).1 * (CM.nb M j).2) ((CM.nb M j).1 * (CM.nb L i).2) = V ∧ CM.wh L M i j = V := ⟨_, rfl, rfl⟩
      obtain ⟨V, hV, hV2⟩ := hW
      rw [hV] at CG
      have hVi : CM.ni L M i j = if V ≤ 0 then i + 1 else i := by unfold CM.ni; rw [hV2]
      have hVj : CM.nj L M i j = if 0 ≤ V then j + 1 else j := by unfold CM.nj; rw [hV2]
      have hcas : (V ≤ 0 ∧ ¬ 0 ≤ V ∧ i + 1 < L.length ∧ CM.ni L M i j = i + 1 ∧ CM.nj L M i j = j) ∨ (¬ V ≤ 0 ∧ 0 ≤ V ∧ j + 1 < M.length ∧ CM.ni L M i j = i ∧ CM.nj L M i j = j + 1) ∨ (V ≤ 0 ∧ 0 ≤ V ∧ (i + 1 < L.length ∧ j + 1 < M.length) ∧ CM.ni L M i j = i + 1 ∧ CM.nj L M i j = j + 1) := by
        rcases hnx with ⟨a, b, e, _⟩ | ⟨a, b, e, _⟩ | ⟨a, b, e, f, _⟩
        · left
          rw [hVi] at a
          rw [hVj] at b
          have k1 : V ≤ 0 := by
            by_cases h : V ≤ 0
            · exact h
            · rw [if_neg h] at a; omega
          have k2 : ¬ 0 ≤ V := fun h => by rw [if_pos h] at b; omega
          exact ⟨k1, k2, e, by rw [hVi, a], by rw [hVj, b]⟩
        · right; left
          rw [hVi] at a
          rw [hVj] at b
          have k1 : ¬ V ≤ 0 := fun h => by rw [if_pos h] at a; omega
          have k2 : 0 ≤ V := by
            by_cases h : 0 ≤ V
            · exact h
            · rw [if_neg h] at b; omega
          exact ⟨k1, k2, e, by rw [hVi, a], by rw [hVj, b]⟩
        · right; right
          rw [hVi] at a
          rw [hVj] at b
          have k1 : V ≤ 0 := by
            by_cases h : V ≤ 0
            · exact h
            · rw [if_neg h] at a; omega
          have k2 : 0 ≤ V := by
            by_cases h : 0 ≤ V
            · exact h
            · rw [if_neg h] at b; omega
          exact ⟨k1, k2, ⟨e, f⟩, by rw [hVi, a], by rw [hVj, b]⟩
      have e1 : (i + 1 < L.length ↔ 1 < n) := by omega
      have e2 : (j + 1 < M.length ↔ 1 < m) := by omega
      obtain ⟨nb1, hnb1⟩ : ∃ x, (CM.nb L i).1 = x := ⟨_, rfl⟩
      obtain ⟨nb2, hnb2⟩ : ∃ x, (CM.nb L i).2 = x := ⟨_, rfl⟩
      obtain ⟨mb1, hmb1⟩ : ∃ x, (CM.nb M j).1 = x := ⟨_, rfl⟩
      obtain ⟨mb2, hmb2⟩ : ∃ x, (CM.nb M j).2 = x := ⟨_, rfl⟩
      rw [hnb1, hnb2] at CN CG
      rw [hmb1, hmb2] at CMm CG
      clear hnb1 hnb2 hmb1 hmb2 hV hV2 hVi hVj hnx hstep hg hR hX hY hO hB hi hj hn hm
      rcases hcas with ⟨hv1, hv2, hn2, hki, hkj⟩ | ⟨hv1, hv2, hm2, hki, hkj⟩ | ⟨hv1, hv2, ⟨hn2, hm2⟩, hki, hkj⟩
      · have hn2 := e1.1 hn2
        have hn3 : (1 : Int) < (n : Int) := by omega
        have hcx : ¬ cx = 1 := by omega
        clear e1 e2 hc2
        have hxn : Lie sendV 2 wr w.heap.size (some ⟨xd.block, xd.off + 2, none⟩) (L.drop (i + 1)) := drop_tail2 HX.out
        have hyn : Lie sendV 2 wr w.heap.size (some yd) (M.drop (j)) := HY.out
        have hi2 : i + 1 < L.length := by have := HI.out; omega
        have hj2 : j < M.length := by have := HJ.out; omega
        obtain ⟨hx9, ⟨x0, x1⟩, _⟩ := hxn.two (by simp; omega)
        obtain ⟨hy9, ⟨y0, y1⟩, _⟩ := hyn.two (by simp; omega)
        rw [(av_drop L (i + 1) 0).1] at x0
        rw [(av_drop L (i + 1) 0).2] at x1
        rw [(av_drop M (j) 0).1] at y0
        rw [(av_drop M (j) 0).2] at y1
        rw [Nat.add_zero] at x0 x1 y0 y1
        have CPP := hidd (fun W => cp.out (i + 1) (j) hi2 hj2 W)
        have HPR := hidd (show CM.pr L M (i + 1) (j) = (SM.av L (i + 1) + SM.av M (j), SM.sv L (i + 1) + SM.sv M (j)) from rfl)
        have HXN := hidd hxn
        have HYN := hidd hyn
        generalize SM.av L (i + 1) = a0 at *
        generalize SM.sv L (i + 1) = a1 at *
        generalize SM.av M (j) = b0 at *
        generalize SM.sv M (j) = b1 at *
        have HI2 := hidd hi2
        have HJ2 := hidd hj2
        have KEEP := hidd (fun W' (hb : Below w.heap.size wr W') => (show (W'.cell? ⟨xd.block, xd.off + 2, none⟩ = some (.int .i64 a0) ∧ W'.cell? ⟨xd.block, xd.off + 2 + 1, none⟩ = some (.int .i64 a1)) ∧ W'.cell? yd = some (.int .i64 b0) ∧ W'.cell? ⟨yd.block, yd.off + 1, none⟩ = some (.int .i64 b1) from ⟨⟨(hb.cell (p := ⟨xd.block, xd.off + 2, none⟩) hx9).trans x0, (hb.cell (p := ⟨xd.block, xd.off + 2 + 1, none⟩) hx9).trans x1⟩, (hb.cell (p := yd) hy9).trans y0, (hb.cell (p := ⟨yd.block, yd.off + 1, none⟩) hy9).trans y1⟩))
        have HN2 := hidd hn2
        have hwsz := HB.out.size
        have HKI := hidd hki
        have HKJ := hidd hkj
        clear hxn hyn hi2 hj2 hki hkj
        have p1n : (0 : Int) < (((n - 1) : Nat) : Int) := by omega
        have p2n : 0 < (n - 1) := by omega
        have p1m : (0 : Int) < ((m : Nat) : Int) := by omega
        have p2m : 0 < m := by omega
        go_wp2_with fail
        refine (CN.out _ ((HX.out.more HB.out.size))).mono ?_
        rintro E1 w1 ⟨rfl, l1⟩
        have C1 := hidd (bstep hwsz (Below.refl w.heap.size wr) l1)
        have O1 := hidd (HO.out.below l1)
        clear l1
        go_wp2_with fail
        refine (CMm.out _ ((HY.out.keep C1.out).more (Nat.le_trans hwsz C1.out.size))).mono ?_
        rintro E2 w2 ⟨rfl, l2⟩
        have C2 := hidd (bstep hwsz C1.out l2)
        have O2 := hidd (O1.out.below l2)
        clear l2
        go_wp2_with fail
        refine (CG.out _).mono ?_
        rintro E3 w3 ⟨rfl, l3⟩
        have C3 := hidd (bstep hwsz C2.out l3)
        have O3 := hidd (O2.out.below l3)
        clear l3 x0 x1 y0 y1
        obtain ⟨⟨x0, x1⟩, y0, y1⟩ := KEEP.out _ C3.out
        have hw3 : w.heap.size ≤ w3.heap.size := Nat.le_trans hwsz C3.out.size
        go_wp2_with fail
        go_region_held3 (fun w' => (w'.cell? ⟨xd.block, xd.off + 2, none⟩ = some (.int .i64 a0) ∧ w'.cell? ⟨xd.block, xd.off + 2 + 1, none⟩ = some (.int .i64 a1)) ∧ w'.cell? yd = some (.int .i64 b0) ∧ w'.cell? ⟨yd.block, yd.off + 1, none⟩ = some (.int .i64 b1))
          ((first | exact KEEP.out _ cum2 | exact KEEP.out _ (Below.alloc cum1 (Nat.le_trans hwsz cum1.size) _) | exact KEEP.out _ cum1 | exact ⟨⟨x0, x1⟩, y0, y1⟩ | go_keep))
          ((first
            | (go_at_call 41; refine (CPP.out _).mono ?_; rintro E4 w4 ⟨rfl, l4⟩; have cum1 : Below w.heap.size wr w4 := (by first | exact bstep hwsz (Below.drew C3.out) l4 | exact bstep hwsz C3.out l4); have O4 : OwnL sendV 2 w4 w.heap.size 44 _ R := (by first | exact OwnL.below (OwnL.drew O3.out) l4 | exact OwnL.below O3.out l4); have hw4 : w.heap.size ≤ w4.heap.size := Nat.le_trans hwsz (Below.size cum1))
            | (refine step_append_some (by rfl) (.tmp 36) (.tmp 44) _ (by rfl) w.heap.size 44 i0 _ 2 16 Try.underlying25 hi0 hz0 hz1 hz2 rfl (by omega) _ R.length (rowOf sendV R) (by rfl) (World.ownsRow.alloc O4 _) (some ⟨w4.heap.size, 0, none⟩) 1 1 [.int .i64 (a0 + b0), .int .i64 (a1 + b1)] (by rfl) (by rfl) (fun _ => ⟨_, rfl, World.news_of_block (cs := #[.int .i64 (a0 + b0), .int .i64 (a1 + b1)]) (t := 44) (fr := (0, 0)) (heap_alloc_new w4 _)⟩) (by simp [Value.oneCell']) (by simp only [maxLen]; omega) (by omega) (by (first | omega | (simp; done) | (simp; omega))) ?_; intro v1 wa hown1 hgrow1 hat1; have cum2 : Below w.heap.size wr wa := Below.grown (Below.alloc cum1 hw4 _) hgrow1 (by (first | omega | (simp; done) | (simp; omega))) (fun k hk => (OwnL.lt O4 k hk).1))))
        all_goals have O5 := hidd (OwnL.snoc (f := sendV) (L := R) (x := (a0 + b0, a1 + b1)) hown1 rfl rfl)
        all_goals have C5 := hidd cum2
        all_goals clear hown1 hgrow1 hat1 cum2 cum1 O4 l4 x0 x1 y0 y1
        all_goals go_wp2_with fail
        all_goals have hg := HG.out
        all_goals have hrr := HRR.out
        all_goals rw [HST.out, HKI.out, HKJ.out, HPR.out, ← List.singleton_append, ← List.append_assoc] at hrr
        all_goals have hn := HN.out
        all_goals have hm := HMn.out
        all_goals have hi9 := HI2.out
        all_goals have hj9 := HJ2.out
        all_goals go_roundg (gk - 1)
        case measure => omega
        case rel => exact ⟨i + 1, j, R ++ [(a0 + b0, a1 + b1)], ⟨hi9, hj9⟩, by omega, hrr, ⟨⟨xd.block, xd.off + 2, none⟩, n - 1, cx - 1, rfl, by omega, ⟨by omega, by omega, by omega⟩, HXN.out.keep C5.out⟩, ⟨yd, m, cy, rfl, by omega, ⟨by omega, by omega, by omega⟩, HYN.out.keep C5.out⟩, O5.out, HB.out.trans C5.out⟩
      · by_cases hn2 : 1 < n
        · have hm2 := e2.1 hm2
          have hm3 : (1 : Int) < (m : Int) := by omega
          have hcy : ¬ cy = 1 := by omega
          have hn3 : (1 : Int) < (n : Int) := by omega
          clear e1 e2 hc2
          have hxn : Lie sendV 2 wr w.heap.size (some xd) (L.drop (i)) := HX.out
          have hyn : Lie sendV 2 wr w.heap.size (some ⟨yd.block, yd.off + 2, none⟩) (M.drop (j + 1)) := drop_tail2 HY.out
          have hi2 : i < L.length := by have := HI.out; omega
          have hj2 : j + 1 < M.length := by have := HJ.out; omega
          obtain ⟨hx9, ⟨x0, x1⟩, _⟩ := hxn.two (by simp; omega)
          obtain ⟨hy9, ⟨y0, y1⟩, _⟩ := hyn.two (by simp; omega)
          rw [(av_drop L (i) 0).1] at x0
          rw [(av_drop L (i) 0).2] at x1
          rw [(av_drop M (j + 1) 0).1] at y0
          rw [(av_drop M (j + 1) 0).2] at y1
          rw [Nat.add_zero] at x0 x1 y0 y1
          have CPP := hidd (fun W => cp.out (i) (j + 1) hi2 hj2 W)
          have HPR := hidd (show CM.pr L M (i) (j + 1) = (SM.av L (i) + SM.av M (j + 1), SM.sv L (i) + SM.sv M (j + 1)) from rfl)
          have HXN := hidd hxn
          have HYN := hidd hyn
          generalize SM.av L (i) = a0 at *
          generalize SM.sv L (i) = a1 at *
          generalize SM.av M (j + 1) = b0 at *
          generalize SM.sv M (j + 1) = b1 at *
          have HI2 := hidd hi2
          have HJ2 := hidd hj2
          have KEEP := hidd (fun W' (hb : Below w.heap.size wr W') => (show (W'.cell? xd = some (.int .i64 a0) ∧ W'.cell? ⟨xd.block, xd.off + 1, none⟩ = some (.int .i64 a1)) ∧ W'.cell? ⟨yd.block, yd.off + 2, none⟩ = some (.int .i64 b0) ∧ W'.cell? ⟨yd.block, yd.off + 2 + 1, none⟩ = some (.int .i64 b1) from ⟨⟨(hb.cell (p := xd) hx9).trans x0, (hb.cell (p := ⟨xd.block, xd.off + 1, none⟩) hx9).trans x1⟩, (hb.cell (p := ⟨yd.block, yd.off + 2, none⟩) hy9).trans y0, (hb.cell (p := ⟨yd.block, yd.off + 2 + 1, none⟩) hy9).trans y1⟩))
          have HN2 := hidd hn2
          have HM2 := hidd hm2
          have hwsz := HB.out.size
          have HKI := hidd hki
          have HKJ := hidd hkj
          clear hxn hyn hi2 hj2 hki hkj
          have p1n : (0 : Int) < ((n : Nat) : Int) := by omega
          have p2n : 0 < n := by omega
          have p1m : (0 : Int) < (((m - 1) : Nat) : Int) := by omega
          have p2m : 0 < (m - 1) := by omega
          go_wp2_with fail
          refine (CN.out _ ((HX.out.more HB.out.size))).mono ?_
          rintro E1 w1 ⟨rfl, l1⟩
          have C1 := hidd (bstep hwsz (Below.refl w.heap.size wr) l1)
          have O1 := hidd (HO.out.below l1)
          clear l1
          go_wp2_with fail
          refine (CMm.out _ ((HY.out.keep C1.out).more (Nat.le_trans hwsz C1.out.size))).mono ?_
          rintro E2 w2 ⟨rfl, l2⟩
          have C2 := hidd (bstep hwsz C1.out l2)
          have O2 := hidd (O1.out.below l2)
          clear l2
          go_wp2_with fail
          refine (CG.out _).mono ?_
          rintro E3 w3 ⟨rfl, l3⟩
          have C3 := hidd (bstep hwsz C2.out l3)
          have O3 := hidd (O2.out.below l3)
          clear l3 x0 x1 y0 y1
          obtain ⟨⟨x0, x1⟩, y0, y1⟩ := KEEP.out _ C3.out
          have hw3 : w.heap.size ≤ w3.heap.size := Nat.le_trans hwsz C3.out.size
          go_wp2_with fail
          go_region_held3 (fun w' => (w'.cell? xd = some (.int .i64 a0) ∧ w'.cell? ⟨xd.block, xd.off + 1, none⟩ = some (.int .i64 a1)) ∧ w'.cell? ⟨yd.block, yd.off + 2, none⟩ = some (.int .i64 b0) ∧ w'.cell? ⟨yd.block, yd.off + 2 + 1, none⟩ = some (.int .i64 b1))
            ((first | exact KEEP.out _ cum2 | exact KEEP.out _ (Below.alloc cum1 (Nat.le_trans hwsz cum1.size) _) | exact KEEP.out _ cum1 | exact ⟨⟨x0, x1⟩, y0, y1⟩ | go_keep))
            ((first
              | (go_at_call 41; refine (CPP.out _).mono ?_; rintro E4 w4 ⟨rfl, l4⟩; have cum1 : Below w.heap.size wr w4 := (by first | exact bstep hwsz (Below.drew C3.out) l4 | exact bstep hwsz C3.out l4); have O4 : OwnL sendV 2 w4 w.heap.size 44 _ R := (by first | exact OwnL.below (OwnL.drew O3.out) l4 | exact OwnL.below O3.out l4); have hw4 : w.heap.size ≤ w4.heap.size := Nat.le_trans hwsz (Below.size cum1))
              | (refine step_append_some (by rfl) (.tmp 36) (.tmp 44) _ (by rfl) w.heap.size 44 i0 _ 2 16 Try.underlying25 hi0 hz0 hz1 hz2 rfl (by omega) _ R.length (rowOf sendV R) (by rfl) (World.ownsRow.alloc O4 _) (some ⟨w4.heap.size, 0, none⟩) 1 1 [.int .i64 (a0 + b0), .int .i64 (a1 + b1)] (by rfl) (by rfl) (fun _ => ⟨_, rfl, World.news_of_block (cs := #[.int .i64 (a0 + b0), .int .i64 (a1 + b1)]) (t := 44) (fr := (0, 0)) (heap_alloc_new w4 _)⟩) (by simp [Value.oneCell']) (by simp only [maxLen]; omega) (by omega) (by (first | omega | (simp; done) | (simp; omega))) ?_; intro v1 wa hown1 hgrow1 hat1; have cum2 : Below w.heap.size wr wa := Below.grown (Below.alloc cum1 hw4 _) hgrow1 (by (first | omega | (simp; done) | (simp; omega))) (fun k hk => (OwnL.lt O4 k hk).1))))
          all_goals have O5 := hidd (OwnL.snoc (f := sendV) (L := R) (x := (a0 + b0, a1 + b1)) hown1 rfl rfl)
          all_goals have C5 := hidd cum2
          all_goals clear hown1 hgrow1 hat1 cum2 cum1 O4 l4 x0 x1 y0 y1
          all_goals go_wp2_with fail
          all_goals have hg := HG.out
          all_goals have hrr := HRR.out
          all_goals rw [HST.out, HKI.out, HKJ.out, HPR.out, ← List.singleton_append, ← List.append_assoc] at hrr
          all_goals have hn := HN.out
          all_goals have hm := HMn.out
          all_goals have hi9 := HI2.out
          all_goals have hj9 := HJ2.out
          all_goals go_roundg (gk - 1)
          case measure => omega
          case rel => exact ⟨i, j + 1, R ++ [(a0 + b0, a1 + b1)], ⟨hi9, hj9⟩, by omega, hrr, ⟨xd, n, cx, rfl, by omega, ⟨by omega, by omega, by omega⟩, HXN.out.keep C5.out⟩, ⟨⟨yd.block, yd.off + 2, none⟩, m - 1, cy - 1, rfl, by omega, ⟨by omega, by omega, by omega⟩, HYN.out.keep C5.out⟩, O5.out, HB.out.trans C5.out⟩
        · have hm2 := e2.1 hm2
          have hm3 : (1 : Int) < (m : Int) := by omega
          have hcy : ¬ cy = 1 := by omega
          have hn3 : ¬ (1 : Int) < (n : Int) := by omega
          clear e1 e2 hc2
          have hxn : Lie sendV 2 wr w.heap.size (some xd) (L.drop (i)) := HX.out
          have hyn : Lie sendV 2 wr w.heap.size (some ⟨yd.block, yd.off + 2, none⟩) (M.drop (j + 1)) := drop_tail2 HY.out
          have hi2 : i < L.length := by have := HI.out; omega
          have hj2 : j + 1 < M.length := by have := HJ.out; omega
          obtain ⟨hx9, ⟨x0, x1⟩, _⟩ := hxn.two (by simp; omega)
          obtain ⟨hy9, ⟨y0, y1⟩, _⟩ := hyn.two (by simp; omega)
          rw [(av_drop L (i) 0).1] at x0
          rw [(av_drop L (i) 0).2] at x1
          rw [(av_drop M (j + 1) 0).1] at y0
          rw [(av_drop M (j + 1) 0).2] at y1
          rw [Nat.add_zero] at x0 x1 y0 y1
          have CPP := hidd (fun W => cp.out (i) (j + 1) hi2 hj2 W)
          have HPR := hidd (show CM.pr L M (i) (j + 1) = (SM.av L (i) + SM.av M (j + 1), SM.sv L (i) + SM.sv M (j + 1)) from rfl)
          have HXN := hidd hxn
          have HYN := hidd hyn
          generalize SM.av L (i) = a0 at *
          generalize SM.sv L (i) = a1 at *
          generalize SM.av M (j + 1) = b0 at *
          generalize SM.sv M (j + 1) = b1 at *
          have HI2 := hidd hi2
          have HJ2 := hidd hj2
          have KEEP := hidd (fun W' (hb : Below w.heap.size wr W') => (show (W'.cell? xd = some (.int .i64 a0) ∧ W'.cell? ⟨xd.block, xd.off + 1, none⟩ = some (.int .i64 a1)) ∧ W'.cell? ⟨yd.block, yd.off + 2, none⟩ = some (.int .i64 b0) ∧ W'.cell? ⟨yd.block, yd.off + 2 + 1, none⟩ = some (.int .i64 b1) from ⟨⟨(hb.cell (p := xd) hx9).trans x0, (hb.cell (p := ⟨xd.block, xd.off + 1, none⟩) hx9).trans x1⟩, (hb.cell (p := ⟨yd.block, yd.off + 2, none⟩) hy9).trans y0, (hb.cell (p := ⟨yd.block, yd.off + 2 + 1, none⟩) hy9).trans y1⟩))
          have HN2 := hidd hn2
          have HM2 := hidd hm2
          have hwsz := HB.out.size
          have HKI := hidd hki
          have HKJ := hidd hkj
          clear hxn hyn hi2 hj2 hki hkj
          have p1n : (0 : Int) < ((n : Nat) : Int) := by omega
          have p2n : 0 < n := by omega
          have p1m : (0 : Int) < (((m - 1) : Nat) : Int) := by omega
          have p2m : 0 < (m - 1) := by omega
          go_wp2_with fail
          refine (CN.out _ ((HX.out.more HB.out.size))).mono ?_
          rintro E1 w1 ⟨rfl, l1⟩
          have C1 := hidd (bstep hwsz (Below.refl w.heap.size wr) l1)
          have O1 := hidd (HO.out.below l1)
          clear l1
          go_wp2_with fail
          refine (CMm.out _ ((HY.out.keep C1.out).more (Nat.le_trans hwsz C1.out.size))).mono ?_
          rintro E2 w2 ⟨rfl, l2⟩
          have C2 := hidd (bstep hwsz C1.out l2)
          have O2 := hidd (O1.out.below l2)
          clear l2
          go_wp2_with fail
          refine (CG.out _).mono ?_
          rintro E3 w3 ⟨rfl, l3⟩
          have C3 := hidd (bstep hwsz C2.out l3)
          have O3 := hidd (O2.out.below l3)
          clear l3 x0 x1 y0 y1
          obtain ⟨⟨x0, x1⟩, y0, y1⟩ := KEEP.out _ C3.out
          have hw3 : w.heap.size ≤ w3.heap.size := Nat.le_trans hwsz C3.out.size
          go_wp2_with fail
          go_region_held3 (fun w' => (w'.cell? xd = some (.int .i64 a0) ∧ w'.cell? ⟨xd.block, xd.off + 1, none⟩ = some (.int .i64 a1)) ∧ w'.cell? ⟨yd.block, yd.off + 2, none⟩ = some (.int .i64 b0) ∧ w'.cell? ⟨yd.block, yd.off + 2 + 1, none⟩ = some (.int .i64 b1))
            ((first | exact KEEP.out _ cum2 | exact KEEP.out _ (Below.alloc cum1 (Nat.le_trans hwsz cum1.size) _) | exact KEEP.out _ cum1 | exact ⟨⟨x0, x1⟩, y0, y1⟩ | go_keep))
            ((first
              | (go_at_call 41; refine (CPP.out _).mono ?_; rintro E4 w4 ⟨rfl, l4⟩; have cum1 : Below w.heap.size wr w4 := (by first | exact bstep hwsz (Below.drew C3.out) l4 | exact bstep hwsz C3.out l4); have O4 : OwnL sendV 2 w4 w.heap.size 44 _ R := (by first | exact OwnL.below (OwnL.drew O3.out) l4 | exact OwnL.below O3.out l4); have hw4 : w.heap.size ≤ w4.heap.size := Nat.le_trans hwsz (Below.size cum1))
              | (refine step_append_some (by rfl) (.tmp 36) (.tmp 44) _ (by rfl) w.heap.size 44 i0 _ 2 16 Try.underlying25 hi0 hz0 hz1 hz2 rfl (by omega) _ R.length (rowOf sendV R) (by rfl) (World.ownsRow.alloc O4 _) (some ⟨w4.heap.size, 0, none⟩) 1 1 [.int .i64 (a0 + b0), .int .i64 (a1 + b1)] (by rfl) (by rfl) (fun _ => ⟨_, rfl, World.news_of_block (cs := #[.int .i64 (a0 + b0), .int .i64 (a1 + b1)]) (t := 44) (fr := (0, 0)) (heap_alloc_new w4 _)⟩) (by simp [Value.oneCell']) (by simp only [maxLen]; omega) (by omega) (by (first | omega | (simp; done) | (simp; omega))) ?_; intro v1 wa hown1 hgrow1 hat1; have cum2 : Below w.heap.size wr wa := Below.grown (Below.alloc cum1 hw4 _) hgrow1 (by (first | omega | (simp; done) | (simp; omega))) (fun k hk => (OwnL.lt O4 k hk).1))))
          all_goals have O5 := hidd (OwnL.snoc (f := sendV) (L := R) (x := (a0 + b0, a1 + b1)) hown1 rfl rfl)
          all_goals have C5 := hidd cum2
          all_goals clear hown1 hgrow1 hat1 cum2 cum1 O4 l4 x0 x1 y0 y1
          all_goals go_wp2_with fail
          all_goals have hg := HG.out
          all_goals have hrr := HRR.out
          all_goals rw [HST.out, HKI.out, HKJ.out, HPR.out, ← List.singleton_append, ← List.append_assoc] at hrr
          all_goals have hn := HN.out
          all_goals have hm := HMn.out
          all_goals have hi9 := HI2.out
          all_goals have hj9 := HJ2.out
          all_goals go_roundg (gk - 1)
          case measure => omega
          case rel => exact ⟨i, j + 1, R ++ [(a0 + b0, a1 + b1)], ⟨hi9, hj9⟩, by omega, hrr, ⟨xd, n, cx, rfl, by omega, ⟨by omega, by omega, by omega⟩, HXN.out.keep C5.out⟩, ⟨⟨yd.block, yd.off + 2, none⟩, m - 1, cy - 1, rfl, by omega, ⟨by omega, by omega, by omega⟩, HYN.out.keep C5.out⟩, O5.out, HB.out.trans C5.out⟩
      · have hn2 := e1.1 hn2
        have hm2 := e2.1 hm2
        have hn3 : (1 : Int) < (n : Int) := by omega
        have hm3 : (1 : Int) < (m : Int) := by omega
        have hcx : ¬ cx = 1 := by omega
        have hcy : ¬ cy = 1 := by omega
        clear e1 e2 hc2
        have hxn : Lie sendV 2 wr w.heap.size (some ⟨xd.block, xd.off + 2, none⟩) (L.drop (i + 1)) := drop_tail2 HX.out
        have hyn : Lie sendV 2 wr w.heap.size (some ⟨yd.block, yd.off + 2, none⟩) (M.drop (j + 1)) := drop_tail2 HY.out
        have hi2 : i + 1 < L.length := by have := HI.out; omega
        have hj2 : j + 1 < M.length := by have := HJ.out; omega
        obtain ⟨hx9, ⟨x0, x1⟩, _⟩ := hxn.two (by simp; omega)
        obtain ⟨hy9, ⟨y0, y1⟩, _⟩ := hyn.two (by simp; omega)
        rw [(av_drop L (i + 1) 0).1] at x0
        rw [(av_drop L (i + 1) 0).2] at x1
        rw [(av_drop M (j + 1) 0).1] at y0
        rw [(av_drop M (j + 1) 0).2] at y1
        rw [Nat.add_zero] at x0 x1 y0 y1
        have CPP := hidd (fun W => cp.out (i + 1) (j + 1) hi2 hj2 W)
        have HPR := hidd (show CM.pr L M (i + 1) (j + 1) = (SM.av L (i + 1) + SM.av M (j + 1), SM.sv L (i + 1) + SM.sv M (j + 1)) from rfl)
        have HXN := hidd hxn
        have HYN := hidd hyn
        generalize SM.av L (i + 1) = a0 at *
        generalize SM.sv L (i + 1) = a1 at *
        generalize SM.av M (j + 1) = b0 at *
        generalize SM.sv M (j + 1) = b1 at *
        have HI2 := hidd hi2
        have HJ2 := hidd hj2
        have KEEP := hidd (fun W' (hb : Below w.heap.size wr W') => (show (W'.cell? ⟨xd.block, xd.off + 2, none⟩ = some (.int .i64 a0) ∧ W'.cell? ⟨xd.block, xd.off + 2 + 1, none⟩ = some (.int .i64 a1)) ∧ W'.cell? ⟨yd.block, yd.off + 2, none⟩ = some (.int .i64 b0) ∧ W'.cell? ⟨yd.block, yd.off + 2 + 1, none⟩ = some (.int .i64 b1) from ⟨⟨(hb.cell (p := ⟨xd.block, xd.off + 2, none⟩) hx9).trans x0, (hb.cell (p := ⟨xd.block, xd.off + 2 + 1, none⟩) hx9).trans x1⟩, (hb.cell (p := ⟨yd.block, yd.off + 2, none⟩) hy9).trans y0, (hb.cell (p := ⟨yd.block, yd.off + 2 + 1, none⟩) hy9).trans y1⟩))
        have HN2 := hidd hn2
        have HM2 := hidd hm2
        have hwsz := HB.out.size
        have HKI := hidd hki
        have HKJ := hidd hkj
        clear hxn hyn hi2 hj2 hki hkj
        have p1n : (0 : Int) < (((n - 1) : Nat) : Int) := by omega
        have p2n : 0 < (n - 1) := by omega
        have p1m : (0 : Int) < (((m - 1) : Nat) : Int) := by omega
        have p2m : 0 < (m - 1) := by omega
        go_wp2_with fail
        refine (CN.out _ ((HX.out.more HB.out.size))).mono ?_
        rintro E1 w1 ⟨rfl, l1⟩
        have C1 := hidd (bstep hwsz (Below.refl w.heap.size wr) l1)
        have O1 := hidd (HO.out.below l1)
        clear l1
        go_wp2_with fail
        refine (CMm.out _ ((HY.out.keep C1.out).more (Nat.le_trans hwsz C1.out.size))).mono ?_
        rintro E2 w2 ⟨rfl, l2⟩
        have C2 := hidd (bstep hwsz C1.out l2)
        have O2 := hidd (O1.out.below l2)
        clear l2
        go_wp2_with fail
        refine (CG.out _).mono ?_
        rintro E3 w3 ⟨rfl, l3⟩
        have C3 := hidd (bstep hwsz C2.out l3)
        have O3 := hidd (O2.out.below l3)
        clear l3 x0 x1 y0 y1
        obtain ⟨⟨x0, x1⟩, y0, y1⟩ := KEEP.out _ C3.out
        have hw3 : w.heap.size ≤ w3.heap.size := Nat.le_trans hwsz C3.out.size
        go_wp2_with fail
        go_region_held3 (fun w' => (w'.cell? ⟨xd.block, xd.off + 2, none⟩ = some (.int .i64 a0) ∧ w'.cell? ⟨xd.block, xd.off + 2 + 1, none⟩ = some (.int .i64 a1)) ∧ w'.cell? ⟨yd.block, yd.off + 2, none⟩ = some (.int .i64 b0) ∧ w'.cell? ⟨yd.block, yd.off + 2 + 1, none⟩ = some (.int .i64 b1))
          ((first | exact KEEP.out _ cum2 | exact KEEP.out _ (Below.alloc cum1 (Nat.le_trans hwsz cum1.size) _) | exact KEEP.out _ cum1 | exact ⟨⟨x0, x1⟩, y0, y1⟩ | go_keep))
          ((first
            | (go_at_call 41; refine (CPP.out _).mono ?_; rintro E4 w4 ⟨rfl, l4⟩; have cum1 : Below w.heap.size wr w4 := (by first | exact bstep hwsz (Below.drew C3.out) l4 | exact bstep hwsz C3.out l4); have O4 : OwnL sendV 2 w4 w.heap.size 44 _ R := (by first | exact OwnL.below (OwnL.drew O3.out) l4 | exact OwnL.below O3.out l4); have hw4 : w.heap.size ≤ w4.heap.size := Nat.le_trans hwsz (Below.size cum1))
            | (refine step_append_some (by rfl) (.tmp 36) (.tmp 44) _ (by rfl) w.heap.size 44 i0 _ 2 16 Try.underlying25 hi0 hz0 hz1 hz2 rfl (by omega) _ R.length (rowOf sendV R) (by rfl) (World.ownsRow.alloc O4 _) (some ⟨w4.heap.size, 0, none⟩) 1 1 [.int .i64 (a0 + b0), .int .i64 (a1 + b1)] (by rfl) (by rfl) (fun _ => ⟨_, rfl, World.news_of_block (cs := #[.int .i64 (a0 + b0), .int .i64 (a1 + b1)]) (t := 44) (fr := (0, 0)) (heap_alloc_new w4 _)⟩) (by simp [Value.oneCell']) (by simp only [maxLen]; omega) (by omega) (by (first | omega | (simp; done) | (simp; omega))) ?_; intro v1 wa hown1 hgrow1 hat1; have cum2 : Below w.heap.size wr wa := Below.grown (Below.alloc cum1 hw4 _) hgrow1 (by (first | omega | (simp; done) | (simp; omega))) (fun k hk => (OwnL.lt O4 k hk).1))))
        all_goals have O5 := hidd (OwnL.snoc (f := sendV) (L := R) (x := (a0 + b0, a1 + b1)) hown1 rfl rfl)
        all_goals have C5 := hidd cum2
        all_goals clear hown1 hgrow1 hat1 cum2 cum1 O4 l4 x0 x1 y0 y1
        all_goals go_wp2_with fail
        all_goals have hg := HG.out
        all_goals have hrr := HRR.out
        all_goals rw [HST.out, HKI.out, HKJ.out, HPR.out, ← List.singleton_append, ← List.append_assoc] at hrr
        all_goals have hn := HN.out
        all_goals have hm := HMn.out
        all_goals have hi9 := HI2.out
        all_goals have hj9 := HJ2.out
        all_goals go_roundg (gk - 1)
        case measure => omega
        case rel => exact ⟨i + 1, j + 1, R ++ [(a0 + b0, a1 + b1)], ⟨hi9, hj9⟩, by omega, hrr, ⟨⟨xd.block, xd.off + 2, none⟩, n - 1, cx - 1, rfl, by omega, ⟨by omega, by omega, by omega⟩, HXN.out.keep C5.out⟩, ⟨⟨yd.block, yd.off + 2, none⟩, m - 1, cy - 1, rfl, by omega, ⟨by omega, by omega, by omega⟩, HYN.out.keep C5.out⟩, O5.out, HB.out.trans C5.out⟩
    · obtain rfl : n = 1 := by omega
      obtain rfl : m = 1 := by omega
      have hend : CM.togF L M gk i j = [] := by
        cases gk with
        | zero => rfl
        | succ g => unfold CM.togF; rw [if_neg hc2]
      rw [hend, List.append_nil] at hR
      subst hR
      clear hg hX hY hi hj hn hm hend hc2
      go_wp2_with fail
      go_ret
      exact ⟨_, rfl, HO.out, HB.out⟩
end Go.Proofs.Ytpgaklfgbioocaa

namespace Go.Proofs.Ytpgaklfgbioocaa
set_option linter.unusedVariables false
open Go.RowKit Go.Proofs.Ytpgaklfgbioocaa.RowK Go.Shelf Go.Sort Go.Lib

theorem sortsLines : SortsLines := fun g cap base L W hL hO => by
  obtain ⟨hH, hb⟩ := hO.holds
  have eg : ∀ args w, (callFunc 36 args).run Try.prog w = .ok (.enter 36 args) w := enters_of Try.func36 (by kernel_rfl) rfl
  have h := AnyQ.slices_SortFunc Try.sortLine 2 Try.isAgg44 Try.sizeOf44 sendV sendV_len (fun x => sendV_one x) lineC lineO 36 #[] g 0 cap L.toArray W eg (lowest1_lays g 0 L.toArray.size W) hH hb (by simp; omega)
  change Calls Try.prog 48 _ _ _ at h
  rw [List.size_toArray] at h
  refine h.mono ?_
  rintro e w' ⟨rfl, d', n, os, hp, hs, rfl⟩
  have hd := line_sorted L.toArray d' (by simpa using hp) (by simpa using hs)
  exact ⟨rfl, hO.sorted d' hd, grownBy_sortedK d'⟩
end Go.Proofs.Ytpgaklfgbioocaa

