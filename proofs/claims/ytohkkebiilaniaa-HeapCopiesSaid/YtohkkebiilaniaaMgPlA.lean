/- Texts that the claim hangs on, in one. -/
import Derived.Test.YtohkkebiilaniaaHpL
import Derived.Test.YtohkkebiilaniaaRows
import Derived.OpenShut
import Derived.ProofKit
import Derived.ChangeSame
import Derived.JoinedOf
import Derived.JoinedAt
import Derived.Carry
import Derived.Deep.Slices
import Derived.Deep.Fields
import Derived.Lib.SmallJoins
import Derived.Laws.Rows
import Derived.Test.YtohkkebiilaniaaHpK
import Derived.Test.YtohkkebiilaniaaShelfS
import Derived.Shelf.SlSortCmp.NoneTotal
import Derived.RangeFuncNested
import Derived.RangeFuncBound
import Derived.RangeFuncCalls
import Derived.RangeFuncLeaves
import Derived.RangeFuncBox
import Derived.Shelf.RegionOpen
import Derived.OwnWalkIn
import Derived.TacticsInMore
import Derived.LoopNIn
import Derived.LoopIn
/- Heaps: what the law knows of three items. -/
namespace Go.Proofs.Ytohkkebiilaniaa.Hp
set_option linter.unusedVariables false
open Go.RowKit Go.Maps Go.Sort Go.Proofs.Ytohkkebiilaniaa.Tp

instance (x y : It) : Decidable (Le x y) := by unfold Le; infer_instance
def k1 : List It := [(7, 1, 2, 1)]
def k2 : List It := [(7, 1, 2, 1), (3, 1, 3, 2)]
def k3 : List It := [(7, 1, 2, 1), (3, 1, 3, 2), (9, 1, 2, 3)]
def k4 : List It := [(7, 1, 2, 1), (3, 1, 3, 2), (9, 0, 1, 3)]
def k5 : List It := [(7, 1, 2, 1), (3, 1, 3, 2)]
set_option maxRecDepth 100000 in
set_option maxHeartbeats 4000000 in
theorem known11_any (w : World) : Calls Try.prog 5 #[] w fun e w' => e = .returned (.bool true) ∧ Below w.heap.size w w' := by
  have cN := hidd (fun W => newR W)
  have cP1 := hidd (fun R h W (H : HR R W h [] 0) => putR_ok H (id := 7) (n := 1) (d := 2) (by omega) (by omega) (by omega) (by omega) (by decide) (by decide) (by decide) (by omega) (by omega))
  have cP2 := hidd (fun R h W (H : HR R W h k1 1) => putR_ok H (id := 3) (n := 1) (d := 3) (by omega) (by omega) (by omega) (by omega) (by decide) (by decide) (by decide) (by omega) (by omega))
  have cP3 := hidd (fun R h W (H : HR R W h k2 2) => putR_ok H (id := 9) (n := 1) (d := 2) (by omega) (by omega) (by omega) (by omega) (by decide) (by decide) (by decide) (by omega) (by omega))
  have cL := hidd (fun R h W (H : HR R W h k3 3) => leastR H (x := (3, 1, 3, 2)) (by unfold MinOf; decide))
  have cS := hidd (fun R h W (H : HR R W h k3 3) => setR_ok H (x := (9, 1, 2, 3)) (by decide) (n := 0) (d := 1) (by omega) (by omega) (by omega) (by omega) (by decide))
  have cT := hidd (fun R h W (H : HR R W h k4 3) => takeR H (x := (9, 0, 1, 3)) (by unfold MinOf; decide))
  have cE := hidd (fun R h W (H : HR R W h k5 3) => lenR H)
  go_enter Try.func5, Try.ntmps5
  go_wp2_with fail
  refine (cN.out _).mono ?_
  rintro e w0 ⟨rfl, ⟨R0, hR0, hn0⟩, hb0⟩
  have B0 := hidd hb0
  have HR0 := hidd hR0
  have N0 := hidd hn0
  clear hb0 hR0 hn0
  go_wp2_with fail
  refine (cP1.out R0 _ _ HR0.out).mono ?_
  rintro e w1 ⟨rfl, R1, hR1, hS1, hN1⟩
  have B1 := hidd (hS1.below B0.out.size N0.out)
  have N1 : Hid (∀ k, R1 k → w.heap.size ≤ k) := hidd (fun k hk => by
    rcases Nat.lt_or_ge k w0.heap.size with q | q
    · exact N0.out k (hN1 k q hk)
    · exact Nat.le_trans B0.out.size q)
  have HR1 : Hid (HR R1 w1 _ k1 1) := hidd hR1
  clear hR1 hS1 hN1
  go_wp2_with fail
  refine (cP2.out R1 _ _ HR1.out).mono ?_
  rintro e w2 ⟨rfl, R2, hR2, hS2, hN2⟩
  have A1 := hidd (Nat.le_trans B0.out.size B1.out.size)
  have B2 := hidd (hS2.below A1.out N1.out)
  have N2 : Hid (∀ k, R2 k → w.heap.size ≤ k) := hidd (fun k hk => by
    rcases Nat.lt_or_ge k w1.heap.size with q | q
    · exact N1.out k (hN2 k q hk)
    · exact Nat.le_trans A1.out q)
  have HR2 : Hid (HR R2 w2 _ k2 2) := hidd hR2
  clear hR2 hS2 hN2
  go_wp2_with fail
  refine (cP3.out R2 _ _ HR2.out).mono ?_
  rintro e w3 ⟨rfl, R3, hR3, hS3, hN3⟩
  have A2 := hidd (Nat.le_trans A1.out B2.out.size)
  have B3 := hidd (hS3.below A2.out N2.out)
  have N3 : Hid (∀ k, R3 k → w.heap.size ≤ k) := hidd (fun k hk => by
    rcases Nat.lt_or_ge k w2.heap.size with q | q
    · exact N2.out k (hN3 k q hk)
    · exact Nat.le_trans A2.out q)
  have HR3 : Hid (HR R3 w3 _ k3 3) := hidd hR3
  have A3 := hidd (Nat.le_trans A2.out B3.out.size)
  clear hR3 hS3 hN3
  go_wp2_with fail
  refine (cL.out R3 _ _ HR3.out).mono ?_
  rintro e w4 ⟨rfl, hb4⟩
  have HR4 := hidd (HR3.out.below hb4)
  have B4 := hidd (hb4.mono A3.out)
  have A4 := hidd (Nat.le_trans A3.out hb4.size)
  clear hb4
  unfold agI iD kN kD tN
  have nr : Hid (∀ k, R3 k → k < w4.heap.size) := hidd HR4.out.lt
  go_wp2_with fail
  refine (cS.out R3 _ _ (HR4.out.below (by (repeat' (first | (with_reducible exact Below.refl _ _) | (with_reducible assumption) | (with_reducible apply Below.setCell) | (with_reducible apply Below.alloc) | (with_reducible apply Below.drew) | (with_reducible apply below_drewN) | (with_reducible refine Below.trans ?_ (Below.mono (by assumption) ?_)) | omega | (simp; done) | (simp; omega)))))).mono ?_
  rintro e w5 ⟨rfl, R5, hR5, hS5, hN5⟩
  have hsz5 : w4.heap.size < w5.heap.size := by have := hS5.size; simp at this; omega
  have x0 := (hS5.cell (p := ⟨w4.heap.size, 0, none⟩) (by simp) (fun q => by have := nr.out _ q; simp at this)).trans (show _ = some (Value.int .i64 3) by simp [go_sem])
  have B5 : Hid (Below w.heap.size w4 w5) := hidd (by
    have q := hS5.below (b := w.heap.size) (by have := A4.out; simp; omega) N3.out
    exact Below.trans (by have := A4.out; (repeat' (first | (with_reducible exact Below.refl _ _) | (with_reducible assumption) | (with_reducible apply Below.setCell) | (with_reducible apply Below.alloc) | (with_reducible apply Below.drew) | (with_reducible apply below_drewN) | (with_reducible refine Below.trans ?_ (Below.mono (by assumption) ?_)) | omega | (simp; done) | (simp; omega)))) q)
  have HR5 : Hid (HR R5 w5 _ k4 3) := hidd hR5
  have nr5 : Hid (¬ R5 w4.heap.size) := hidd (fun q => by
    have := nr.out _ (hN5 w4.heap.size (by simp) q)
    omega)
  have N5 : Hid (∀ k, R5 k → w.heap.size ≤ k) := hidd (fun k hk => by
    rcases Nat.lt_or_ge k w4.heap.size with q | q
    · exact N3.out k (hN5 k (by simp; omega) hk)
    · exact Nat.le_trans A4.out q)
  have A5 := hidd (Nat.le_trans A4.out (Nat.le_of_lt hsz5))
  clear hR5 hS5 hN5
  go_wp2_with fail
  refine (cT.out R5 _ _ HR5.out).mono ?_
  rintro e w6 ⟨rfl, R6, hR6, hS6, hN6⟩
  have hsz6 : w5.heap.size ≤ w6.heap.size := hS6.size
  have x1 := (hS6.cell (p := ⟨w4.heap.size, 0, none⟩) hsz5 nr5.out).trans x0
  have B6 := hidd (hS6.below A5.out N5.out)
  have HR6 : Hid (HR R6 w6 _ k5 3) := hidd hR6
  have hxl : w4.heap.size < w6.heap.size := by omega
  clear hR6 hS6 hN6 x0
  unfold agI iD kN kD tN
  go_wp2_with fail
  refine (cE.out R6 _ _ (HR6.out.below (by (repeat' (first | (with_reducible exact Below.refl _ _) | (with_reducible assumption) | (with_reducible apply Below.setCell) | (with_reducible apply Below.alloc) | (with_reducible apply Below.drew) | (with_reducible apply below_drewN) | (with_reducible refine Below.trans ?_ (Below.mono (by assumption) ?_)) | omega | (simp; done) | (simp; omega)))))).mono ?_
  rintro e w7 ⟨rfl, rfl⟩
  have BZ : Hid (Below w.heap.size w w6) := hidd ((((((B0.out.trans B1.out).trans B2.out).trans B3.out).trans B4.out).trans B5.out).trans B6.out)
  have AZ := A5.out
  have hlen : (k5.length : Int) = 2 := rfl
  go_wp2_with fail
  go_ret
  exact ⟨rfl, by have b := BZ.out; (repeat' (first | (with_reducible exact Below.refl _ _) | (with_reducible assumption) | (with_reducible apply Below.setCell) | (with_reducible apply Below.alloc) | (with_reducible apply Below.drew) | (with_reducible apply below_drewN) | (with_reducible refine Below.trans ?_ (Below.mono (by assumption) ?_)) | omega | (simp; done) | (simp; omega)))⟩
end Go.Proofs.Ytohkkebiilaniaa.Hp

/- Heaps: HeapTurns' walk. -/
namespace Go.Proofs.Ytohkkebiilaniaa.Hp
set_option linter.unusedVariables false
open Go.RowKit Go.Maps Go.Sort Go.Proofs.Ytohkkebiilaniaa.Tp

def ratV (x : Int × Int) : List Value := [.int .i64 x.1, .int .i64 x.2]
def Wd (x : Int × Int) : Prop := -9223372036854775808 ≤ x.1 ∧ x.1 ≤ 9223372036854775807 ∧ -9223372036854775808 ≤ x.2 ∧ x.2 ≤ 9223372036854775807
def rA (L : List (Int × Int)) (i : Nat) : Int × Int := L.getD i (0, 0)
theorem rA_at {L : List (Int × Int)} {i : Nat} (h : i < L.length) : rA L i = L[i] := by simp [rA, h]
theorem Lie.rat {w : World} {B : Nat} {A : Option Addr} {l : List (Int × Int)} (h : Lie ratV 2 w B A l) (i : Nat) (hi : i < l.length) :
    ∃ ad, A = some ad ∧ (ad.add (i * 2)).block < B ∧ w.cell? (ad.add (i * 2)) = some (.int .i64 (rA l i).1) ∧ w.cell? ⟨(ad.add (i * 2)).block, (ad.add (i * 2)).off + 1, none⟩ = some (.int .i64 (rA l i).2) := by
  obtain ⟨ad, e, hB, hc⟩ := h (by omega)
  have hx : l[i]? = some l[i] := List.getElem?_eq_getElem hi
  rw [rA_at hi]
  have h0 := hc i _ hx 0 _ rfl
  have h1 := hc i _ hx 1 _ rfl
  rw [← add_of_add] at h1
  exact ⟨ad, e, by rw [block_of_add]; exact hB, h0, h1⟩
/-- items by number, with these keys. -/
def mkI (f : Nat → Int × Int) (j : Nat) : It := ((j : Int), (f j).1, (f j).2, (j : Int) + 1)
def mk (n : Nat) (f : Nat → Int × Int) : List It := (List.range n).map (mkI f)
theorem mk_len (n : Nat) (f : Nat → Int × Int) : (mk n f).length = n := by simp [mk]
theorem mem_mk {n : Nat} {f : Nat → Int × Int} {x : It} : x ∈ mk n f ↔ ∃ j, j < n ∧ mkI f j = x := by simp [mk]
theorem mk_snoc (n : Nat) (f : Nat → Int × Int) (k : Int × Int) : mk n f ++ [((n : Int), k.1, k.2, (n : Int) + 1)] = mk (n + 1) (fun j => if j = n then k else f j) := by
  unfold mk
  rw [List.range_succ, List.map_append]
  congr 1
  · apply List.map_congr_left
    intro j hj
    have : j ≠ n := by have := List.mem_range.1 hj; omega
    simp [mkI, this]
  · simp [mkI]
theorem gI_mk {n : Nat} {f : Nat → Int × Int} {j : Nat} (h : j < n) : gI (mk n f) j = mkI f j := by
  rw [gI_at (by rw [mk_len]; exact h)]; simp [mk]
theorem mk_set (n : Nat) (f : Nat → Int × Int) {i : Nat} (hi : i < n) (k : Int × Int) : ((mk n f).erase (mkI f i) ++ [keyed (mkI f i) k.1 k.2]).Perm (mk n (fun j => if j = i then k else f j)) := by
  have p := set_erase (List.Perm.refl (mk n f)) (n := i) (by rw [mk_len]; exact hi) (keyed (mkI f i) k.1 k.2)
  rw [gI_mk hi] at p
  have e : (mk n f).set i (keyed (mkI f i) k.1 k.2) = mk n (fun j => if j = i then k else f j) := by
    apply List.ext_getElem?
    intro j
    by_cases hj : j < n
    · by_cases e : i = j
      · subst e
        rw [List.getElem?_set_self (by rw [mk_len]; exact hi)]
        simp [mk, hj, mkI, keyed, iD, tN]
      · rw [List.getElem?_set_ne e]
        have : ¬ j = i := fun q => e q.symm
        simp [mk, hj, mkI, this]
    · rw [List.getElem?_eq_none (by simp [mk_len]; omega), List.getElem?_eq_none (by simp [mk_len]; omega)]
  rw [e] at p
  exact p.symm
/-- those from i on, all of one key. -/
def rest (k : Int × Int) (i m : Nat) : List It := (List.range' i m).map (mkI (fun _ => k))
theorem rest_cons (k : Int × Int) (i m : Nat) : rest k i (m + 1) = mkI (fun _ => k) i :: rest k (i + 1) m := by
  simp [rest, List.range'_succ]
theorem rest_all {n : Nat} {f : Nat → Int × Int} {k : Int × Int} (h : ∀ j, j < n → f j = k) : mk n f = rest k 0 n := by
  unfold mk rest
  rw [List.range_eq_range']
  apply List.map_congr_left
  intro j hj
  have : j < n := by simpa using hj
  simp [mkI, h j this]
theorem rest_min (k : Int × Int) (i m : Nat) : MinOf (rest k i (m + 1)) (mkI (fun _ => k) i) := by
  refine ⟨by rw [rest_cons]; simp, fun y hy => ?_⟩
  obtain ⟨j, hj, rfl⟩ := List.mem_map.1 hy
  have : i ≤ j := by simp at hj; omega
  rw [le_iff]
  exact .inr ⟨rfl, by simp [mkI, tN]; omega⟩
theorem rest_erase (k : Int × Int) (i m : Nat) : (rest k i (m + 1)).erase (mkI (fun _ => k) i) = rest k (i + 1) m := by
  rw [rest_cons, List.erase_cons_head]
theorem no_id {n : Nat} {f : Nat → Int × Int} {id : Int} (h : id = (n : Int)) : ¬ ∃ x ∈ mk n f, iD x = id := by
  rintro ⟨x, hx, e⟩
  obtain ⟨j, hj, rfl⟩ := mem_mk.1 hx
  simp [mkI, iD] at e
  omega
end Go.Proofs.Ytohkkebiilaniaa.Hp

/- The row's frame, for heaps: arguments are opened to numbers and lists; behind a call that made new memory alone each reads as it did. -/
namespace Go.Proofs.Ytohkkebiilaniaa.Hp
set_option linter.unusedVariables false
open Go.RowKit Go.Proofs.Ytohkkebiilaniaa.Tp in
/-- a call's cells: Kind, ID, Key. -/
def actV (x : Int × Int × Int × Int) : List Value := [.int .i64 x.1, .int .i64 x.2.1, .int .i64 x.2.2.1, .int .i64 x.2.2.2]
def WdA (x : Int × Int × Int × Int) : Prop := -9223372036854775808 ≤ x.2.1 ∧ x.2.1 ≤ 9223372036854775807 ∧ -9223372036854775808 ≤ x.2.2.1 ∧ x.2.2.1 ≤ 9223372036854775807 ∧ -9223372036854775808 ≤ x.2.2.2 ∧ x.2.2.2 ≤ 9223372036854775807
namespace RowK
open Go.ChangeShapes Go.WideShapes Go.ChangeAt Go.RowKit Go.Joins Go.Deep Go.Proofs.Ytohkkebiilaniaa.Tp

theorem own : ownKnob Try.prog.godebug = none := by kernel_rfl
theorem laidOut : laidOutB Try.prog = true := by kernel_rfl
theorem i64_bounds {n : Int} (h : (Lit.int .i64 n).wf = true) : -9223372036854775808 ≤ n ∧ n ≤ 9223372036854775807 := by
  simp only [Lit.wf, Bool.and_eq_true, decide_eq_true_eq] at h
  have a : IntKind.i64.min = -9223372036854775808 := rfl
  have b : IntKind.i64.max = 9223372036854775807 := rfl
  omega
section
variable {H : Type} {enc : TypeId × Value → H} {P : Program}
theorem all_stays (hl : laidOutB P = true) {W W' : World} (hb : Below W.heap.size W W') : ∀ {ts : List TypeId} {vs : List Value} {ds : List (DataW H)} {ps : List MemPlace},
    (∀ t ∈ ts, P.readableRec t = true ∧ t < P.types.size) → DataW.TrodAll enc P W 0 (fun _ => true) true ts vs ds ps → (∀ x ∈ ps, x.block < W.heap.size) → ∀ sp : Nat → Bool, (∀ x ∈ ps, sp x.block = true) → DataW.TrodAll enc P W' 0 sp true ts vs ds ps
  | [], vs, ds, ps, _, h, _, sp, _ => by
    obtain ⟨rfl, rfl, rfl⟩ := trodAll_nil h
    exact trodAll_mk0
  | t :: ts, vs, ds, ps, hr, h, hlt, sp, hsp => by
    obtain ⟨v, vs', d, ds', p, p', rfl, rfl, rfl, h0, h1⟩ := trodAll_cons h
    refine trodAll_cons_mk (WideElems.Trod_stays hl (hr t (by simp)).1 (hr t (by simp)).2 h0 (fun x hx => hb.same (hlt x (by simp [hx]))) (fun x hx => hsp x (by simp [hx]))) ?_
    exact all_stays hl hb (fun t ht => hr t (by simp [ht])) h1 (fun x hx => hlt x (by simp [hx])) sp (fun x hx => hsp x (by simp [hx]))

theorem post_law {f : Func} {s : ChangeSpec} {apart fresh handsOn again : Bool} {W W' : World} {args : Array Value} {v : Value} {ds gs : List (DataW H)} {before pv : List MemPlace}
    (hl : laidOutB P = true) (hr : ∀ t ∈ f.params.toList, P.readableRec t = true ∧ t < P.types.size)
    (hW : DataW.Whole enc P f.params.toList s.vars apart W args.toList ds gs (before ++ pv))
    (hA : DataW.TrodAll enc P W 0 (fun _ => true) true f.params.toList args.toList ds before)
    (hs : (s.fn H (ds ++ gs)).args = ds)
    (hres : ∀ (b : Nat) (sp : Nat → Bool) (hd : Bool), DataW.TrodAll enc P W' b sp hd f.resultTypes.toList (v.resultList f.resultTypes.size) (s.fn H (ds ++ gs)).results [])
    (hvars : ∀ sp : Nat → Bool, DataW.TrodVars enc P W' sp s.vars (s.fn H (ds ++ gs)).vars pv)
    (hb : Below W.heap.size W W')
    (hok : ∀ (j : Nat) (t : TypeId) (r : Value), f.resultTypes[j]? = some t → (v.resultList f.resultTypes.size)[j]? = some r → Value.okWide P W' .any 0 t r) :
    s.post enc P f apart fresh handsOn again W args v W' := by
  have hlt : ∀ p ∈ before ++ pv, p.block < W.heap.size := fun p hp => hW.lt p hp
  have hargs : ∀ sp : Nat → Bool, (∀ p ∈ before ++ pv, sp p.block = true) → DataW.TrodAll enc P W' 0 sp true f.params.toList args.toList (s.fn H (ds ++ gs)).args before := fun sp hsp => by
    rw [hs]
    exact all_stays hl hb hr hA (fun x hx => hlt x (by simp [hx])) sp (fun x hx => hsp x (by simp [hx]))
  have hold : ∀ p ∈ before ++ pv, (fun b => decide (b < W.heap.size)) p.block = true := fun p hp => by simpa using hlt p hp
  refine ⟨ds, gs, before ++ pv, [], before, pv, hW, hres _ _ _, hargs _ hold, hvars _, World.keptBut_mono (fun p hp => ⟨hp, ?_⟩) (hb.frame (· ∈ before ++ pv)), fun _ => ?_⟩
  · rw [List.mem_append] at hp
    exact Or.inr hp
  · obtain ⟨_, _, _, _, _, hz, hn⟩ := hW
    refine ⟨hok, _, _, ([] ++ before) ++ pv, ⟨[] ++ before, pv, trodAll_append (hargs _ (fun _ _ => rfl)) (hres _ _ _), hvars _, rfl, ?_, ?_⟩, ?_⟩
    · intro b off hp
      have hin : MemPlace.cell b off ∈ before ++ pv := by simpa using hp
      rw [hb.frozen (hlt _ hin)]
      exact hz b off hin
    · intro ha
      have := hn ha
      simpa using this
    · intro p hp _
      simpa using hp
end

section
variable {H : Type} {enc : TypeId × Value → H} {P : Program} {w : World} {base : Nat} {spare : Nat → Bool} {held : Bool}
theorem open_slice_fields {t e : TypeId} {fs : Array Field} {fuel : Nat} {cs : List Value} {x : DataW H × List MemPlace} (ht : P.underlying t = some (.slice e)) (he : P.underlying e = some (.struct fs))
    (hone : oneCellFields P fs = true) (hC : P.cellsOf e = fs.size) (h : DataW.trod enc P w base spare held fuel t cs = some x) :
    cs = [.slice none 0 0] ∨
    ∃ (a : Addr) (len cap : Nat), cs = [.slice (some a) len cap] ∧ len ≤ cap ∧ cap ≤ maxLen ∧
      ∀ i, i < len → ∀ (j : Nat) (f : Field), fs[j]? = some f → ∃ (v : Value) (n : Nat) (y : DataW H × List MemPlace), w.cell? (a.add (i * fs.size + j)) = some v ∧ DataW.trod enc P w base spare held n f.type [v] = some y := by
  rcases open_slice ht h with h0 | ⟨a, len, cap, m, n, D, Pl, hcs, hb, hl, hm, hmm, hx, hi⟩
  · exact .inl h0.1
  · refine .inr ⟨a, len, cap, hcs, hl, hm, fun i hil j f hj => ?_⟩
    have him : i < m := by rw [hmm]; split <;> omega
    obtain ⟨cs', hc, ht'⟩ := hi i him
    rw [hC] at hc
    obtain ⟨ys, n', hn', hy, hlen, hyl, hf⟩ := DataW.trod_struct he ht'
    obtain ⟨_, hcl, hat⟩ := World.cells?_some hc
    obtain ⟨ho, hk⟩ := hone_of hone j f hj
    have hjl : j < fs.size := (Array.getElem?_eq_some_iff.1 hj).1
    have hcell := hat j hjl
    have hv : cs'[j]? = some (cs'[j]'(by omega)) := List.getElem?_eq_getElem (by omega)
    have h1 := hf j f hj
    rw [ho, hk] at h1
    have hone' : (cs'.drop j).take 1 = [cs'[j]'(by omega)] := by
      rw [List.drop_eq_getElem_cons (by omega)]
      rfl
    rw [hone'] at h1
    have hys : ys[j]? = some (ys[j]'(by omega)) := List.getElem?_eq_getElem (by omega)
    refine ⟨_, n', _, ?_, h1.trans hys⟩
    rw [← Go.Deep.add_add, hcell, hv]
theorem list_of {α : Type} {Q : Nat → α → Prop} : ∀ {n : Nat}, (∀ i, i < n → ∃ x, Q i x) → ∃ L : List α, L.length = n ∧ ∀ i x, L[i]? = some x → Q i x
  | 0, _ => ⟨[], rfl, fun i x h => by simp at h⟩
  | n + 1, h => by
    obtain ⟨L, hL, hQ⟩ := list_of (n := n) (fun i hi => h i (by omega))
    obtain ⟨x, hx⟩ := h n (by omega)
    refine ⟨L ++ [x], by simp [hL], fun i y hy => ?_⟩
    rw [List.getElem?_append] at hy
    split at hy
    · exact hQ i y hy
    · have : i = n := by
        have := (List.getElem?_eq_some_iff.1 hy).1
        simp at this
        omega
      subst this
      rw [hL] at hy
      simp at hy
      exact hy ▸ hx
end

theorem cellsRat : Try.prog.cellsOf 32 = 2 := by kernel_rfl
theorem cellsI : Try.prog.cellsOf 3 = 1 := by kernel_rfl
theorem cellsL : Try.prog.cellsOf 2 = 1 := by kernel_rfl
section
variable {H : Type} {enc : TypeId × Value → H} {w : World} {base : Nat} {spare : Nat → Bool} {held : Bool}
theorem open_two {P : Program} {t : TypeId} {f0 f1 : Field} (hs : P.underlying t = some (.struct #[f0, f1])) (o0 : f0.offset = 0) (o1 : f1.offset = 1) (k0 : P.cellsOf f0.type = 1) (k1 : P.cellsOf f1.type = 1) (i0 : P.underlying f0.type = some (.int .i64)) (i1 : P.underlying f1.type = some (.int .i64))
    {fuel : Nat} {c0 c1 : Value} {x : DataW H × List MemPlace} (h : DataW.trod enc P w base spare held fuel t [c0, c1] = some x) :
    ∃ a b : Int, c0 = .int .i64 a ∧ c1 = .int .i64 b ∧ Wd (a, b) := by
  obtain ⟨xs, n, _, hx, _, hlen, hg⟩ := DataW.trod_struct hs h
  match xs, hlen with
  | [y0, y1], _ =>
    have g0 : DataW.trod enc P w base spare held n f0.type [c0] = some y0 := by simpa [o0, k0] using hg 0 f0 rfl
    have g1 : DataW.trod enc P w base spare held n f1.type [c1] = some y1 := by simpa [o1, k1] using hg 1 f1 rfl
    obtain ⟨a0, e0, -, z0⟩ := DataW.trod_int i0 g0
    obtain ⟨a1, e1, -, z1⟩ := DataW.trod_int i1 g1
    simp at e0 e1
    have b0 := i64_bounds z0
    have b1 := i64_bounds z1
    exact ⟨a0, a1, e0, e1, b0.1, b0.2, b1.1, b1.2⟩
theorem open_rat_cells {fuel : Nat} {c0 c1 : Value} {x : DataW H × List MemPlace} (h : DataW.trod enc Try.prog w base spare held fuel 32 [c0, c1] = some x) :
    ∃ a b : Int, c0 = .int .i64 a ∧ c1 = .int .i64 b ∧ Wd (a, b) :=
  open_two Try.underlying32 rfl rfl cellsL cellsL Try.underlying2 Try.underlying2 h
/-- a struct of an int, an int64, and what lies in two cells. -/
theorem open_four {P : Program} {t : TypeId} {f0 f1 f2 : Field} (hs : P.underlying t = some (.struct #[f0, f1, f2])) (o0 : f0.offset = 0) (o1 : f1.offset = 1) (o2 : f2.offset = 2) (k0 : P.cellsOf f0.type = 1) (k1 : P.cellsOf f1.type = 1) (k2 : P.cellsOf f2.type = 2)
    (i0 : P.underlying f0.type = some (.int .i64)) (i1 : P.underlying f1.type = some (.int .i64)) {fuel : Nat} {cs : List Value} (hcl : cs.length = 4) {x : DataW H × List MemPlace} (h : DataW.trod enc P w base spare held fuel t cs = some x) :
    ∃ (a b : Int) (c2 c3 : Value) (n : Nat) (y : DataW H × List MemPlace), cs = [.int .i64 a, .int .i64 b, c2, c3] ∧ -9223372036854775808 ≤ b ∧ b ≤ 9223372036854775807 ∧ DataW.trod enc P w base spare held n f2.type [c2, c3] = some y := by
  obtain ⟨xs, n, _, hx, _, hlen, hg⟩ := DataW.trod_struct hs h
  match cs, hcl, xs, hlen with
  | [c0, c1, c2, c3], _, [y0, y1, y2], _ =>
    have g0 : DataW.trod enc P w base spare held n f0.type [c0] = some y0 := by simpa [o0, k0] using hg 0 f0 rfl
    have g1 : DataW.trod enc P w base spare held n f1.type [c1] = some y1 := by simpa [o1, k1] using hg 1 f1 rfl
    have g2 : DataW.trod enc P w base spare held n f2.type [c2, c3] = some y2 := by simpa [o2, k2] using hg 2 f2 rfl
    obtain ⟨a0, e0, -, z0⟩ := DataW.trod_int i0 g0
    obtain ⟨a1, e1, -, z1⟩ := DataW.trod_int i1 g1
    simp at e0 e1
    subst e0 e1
    have b1 := i64_bounds z1
    exact ⟨a0, a1, c2, c3, n, y2, rfl, b1.1, b1.2, g2⟩
theorem open_two_v {P : Program} {t : TypeId} {f0 f1 : Field} (hs : P.underlying t = some (.struct #[f0, f1])) (hC : P.cellsOf t = 2) (o0 : f0.offset = 0) (o1 : f1.offset = 1) (k0 : P.cellsOf f0.type = 1) (k1 : P.cellsOf f1.type = 1) (i0 : P.underlying f0.type = some (.int .i64)) (i1 : P.underlying f1.type = some (.int .i64))
    {r : Reach} {b0 : Nat} {v : Value} {d : DataW H} {p : List MemPlace} (hv : Value.okWide P w r b0 t v) (h : DataW.Trod enc P w base spare held t v d p) :
    ∃ a b : Int, v = .agg #[.int .i64 a, .int .i64 b] ∧ Wd (a, b) := by
  obtain ⟨cs, rfl, hsz⟩ := okWide_struct hs hv
  obtain ⟨l⟩ := cs
  match l, hsz.trans hC with
  | [c0, c1], _ =>
    obtain ⟨fuel, hf⟩ := h
    obtain ⟨a, b, rfl, rfl, hw⟩ := open_two (c0 := c0) (c1 := c1) hs o0 o1 k0 k1 i0 i1 (by simpa [Value.cells] using hf)
    exact ⟨a, b, rfl, hw⟩
set_option maxRecDepth 1000000 in
theorem open_rat {r : Reach} {b0 : Nat} {v : Value} {d : DataW H} {p : List MemPlace} (hv : Value.okWide Try.prog w r b0 32 v) (h : DataW.Trod enc Try.prog w base spare held 32 v d p) :
    ∃ a b : Int, v = .agg #[.int .i64 a, .int .i64 b] ∧ Wd (a, b) :=
  open_two_v Try.underlying32 cellsRat rfl rfl cellsL cellsL Try.underlying2 Try.underlying2 hv h
theorem open_rats {fuel : Nat} {cs : List Value} {x : DataW H × List MemPlace} (h : DataW.trod enc Try.prog w base spare held fuel 98 cs = some x) :
    ∃ (A : Option Addr) (L : List (Int × Int)) (c : Nat), cs = [.slice A L.length c] ∧ L.length ≤ c ∧ c ≤ maxLen ∧ (∀ x ∈ L, Wd x) ∧ Lie ratV 2 w w.heap.size A L := by
  rcases open_slice_fields Try.underlying98 Try.underlying32 (by kernel_rfl) cellsRat h with rfl | ⟨a, len, cap, rfl, hl, hm, hc⟩
  · exact ⟨none, [], 0, rfl, by simp, by simp [maxLen], fun x hx => absurd hx (by simp), Lie.nil⟩
  · obtain ⟨L, rfl, hL⟩ := list_of (α := Int × Int) (Q := fun i x => Wd x ∧ w.cell? (a.add (i * 2 + 0)) = some (.int .i64 x.1) ∧ w.cell? (a.add (i * 2 + 1)) = some (.int .i64 x.2)) (fun i hi => by
      obtain ⟨v0, n0, y0, hv0, ht0⟩ := hc i hi 0 _ rfl
      obtain ⟨v1, n1, y1, hv1, ht1⟩ := hc i hi 1 _ rfl
      obtain ⟨a0, e0, -, z0⟩ := DataW.trod_int Try.underlying2 ht0
      obtain ⟨a1, e1, -, z1⟩ := DataW.trod_int Try.underlying2 ht1
      simp at e0 e1
      subst e0 e1
      have b0 := i64_bounds z0
      have b1 := i64_bounds z1
      exact ⟨(a0, a1), ⟨b0.1, b0.2, b1.1, b1.2⟩, hv0, hv1⟩)
    refine ⟨some a, L, cap, rfl, hl, hm, fun x hx => ?_, fun hlen => ⟨a, rfl, ?_, fun i x hx j v hv => ?_⟩⟩
    · obtain ⟨i, hi, rfl⟩ := List.getElem_of_mem hx
      exact (hL i L[i] (List.getElem?_eq_getElem hi)).1
    · have := (hL 0 L[0] (List.getElem?_eq_getElem hlen)).2.1
      have := World.block_lt_of_cell? _ _ this
      rwa [block_of_add] at this
    · obtain ⟨_, h0, h1⟩ := hL i x hx
      match j, hv with
      | 0, hv => simp [ratV] at hv; subst hv; exact h0
      | 1, hv => simp [ratV] at hv; subst hv; exact h1
      | j + 2, hv => simp [ratV] at hv
/-- a call: Kind, ID, Key. -/
theorem cellsAct : Try.prog.cellsOf 34 = 4 := by kernel_rfl
theorem open_acts {fuel : Nat} {cs : List Value} {x : DataW H × List MemPlace} (h : DataW.trod enc Try.prog w base spare held fuel 22 cs = some x) :
    ∃ (A : Option Addr) (L : List (Int × Int × Int × Int)) (c : Nat), cs = [.slice A L.length c] ∧ L.length ≤ c ∧ c ≤ maxLen ∧ (∀ x ∈ L, WdA x) ∧ Lie actV 4 w w.heap.size A L := by
  rcases open_slice Try.underlying22 h with h0 | ⟨a, len, cap, m, n, D, Pl, hcs, hb, hl, hm, hmm, hx, hi⟩
  · exact ⟨none, [], 0, h0.1, by simp, by simp [maxLen], fun x hx => absurd hx (by simp), Lie.nil⟩
  · obtain ⟨L, hLl, hL⟩ := list_of (α := Int × Int × Int × Int) (n := len) (Q := fun i x => WdA x ∧ w.cell? (a.add (i * 4 + 0)) = some (.int .i64 x.1) ∧ w.cell? (a.add (i * 4 + 1)) = some (.int .i64 x.2.1) ∧ w.cell? (a.add (i * 4 + 2)) = some (.int .i64 x.2.2.1) ∧ w.cell? (a.add (i * 4 + 3)) = some (.int .i64 x.2.2.2)) (fun i hil => by
      have him : i < m := by rw [hmm]; split <;> omega
      obtain ⟨cs', hc, ht'⟩ := hi i him
      rw [cellsAct] at hc
      obtain ⟨_, hcl, hat⟩ := World.cells?_some hc
      have q := fun j (hj : j < 4) => hat j hj
      obtain ⟨a0, a1, c2, c3, n', y2, rfl, b0, b1, g2⟩ := open_four Try.underlying34 rfl rfl rfl cellsI cellsL cellsRat Try.underlying3 Try.underlying2 hcl ht'
      obtain ⟨a2, a3, rfl, rfl, hw⟩ := open_rat_cells g2
      refine ⟨(a0, a1, a2, a3), ⟨b0, b1, hw.1, hw.2.1, hw.2.2.1, hw.2.2.2⟩, ?_, ?_, ?_, ?_⟩
      · have := q 0 (by omega); rw [add_of_add] at this; exact this
      · have := q 1 (by omega); rw [add_of_add] at this; exact this
      · have := q 2 (by omega); rw [add_of_add] at this; exact this
      · have := q 3 (by omega); rw [add_of_add] at this; exact this)
    subst hLl
    refine ⟨some a, L, cap, hcs, hl, hm, fun x hx => ?_, fun hlen => ⟨a, rfl, ?_, fun i x hx j v hv => ?_⟩⟩
    · obtain ⟨i, hi, rfl⟩ := List.getElem_of_mem hx
      exact (hL i L[i] (List.getElem?_eq_getElem hi)).1
    · have := (hL 0 L[0] (List.getElem?_eq_getElem hlen)).2.1
      have := World.block_lt_of_cell? _ _ this
      rwa [block_of_add] at this
    · obtain ⟨_, h0, h1, h2, h3⟩ := hL i x hx
      match j, hv with
      | 0, hv => simp [actV] at hv; subst hv; exact h0
      | 1, hv => simp [actV] at hv; subst hv; exact h1
      | 2, hv => simp [actV] at hv; subst hv; exact h2
      | 3, hv => simp [actV] at hv; subst hv; exact h3
      | j + 4, hv => simp [actV] at hv
end
end RowK
end Go.Proofs.Ytohkkebiilaniaa.Hp

/- Heaps: going over what is not there. -/
namespace Go.Proofs.Ytohkkebiilaniaa.Hp
set_option linter.unusedVariables false
open Go.RowKit Go.Maps Go.Sort Go.Shelf Go.Proofs.Ytohkkebiilaniaa.Tp
attribute [local go_sem] Oper.semAt_some

theorem abides_below {β : Type} {B : Nat} {J : β → World → Prop} (hJ : AbidesFrom B J) {s : β} {W W' : World} (h : J s W) (hb : Below W.heap.size W W') : J s W' := hJ s W W' none h ⟨hb.os, hb.tape, hb.output, hb.size, fun k hk _ => hb.block k hk⟩ (fun r e => by cases e)
theorem each_any (a : Option Addr) (w : World) : Calls Try.prog 32 #[.pointer a] w fun e w' => e = .returned (.func (.func 46) #[] #[.pointer (some ⟨w.heap.size, 0, none⟩)]) ∧ w' = w.alloc (.cells #[.pointer a] 24) := by
  have hmf : ∀ (fn : Fn) (first cap : Array Value) (w : World), (Instr.makeFunc fn first cap).run Try.prog w = .ok (.func fn first cap) w := fun _ _ _ _ => rfl
  go_enter Try.func32, Try.ntmps32
  go_wp2
  go_ret
  exact ⟨rfl, rfl⟩
theorem values_any (v : Value) (hv : ∃ A n c, v = .slice A n c) (w : World) : Calls Try.prog 30 #[v] w fun e w' => e = .returned (.func (.func 43) #[] #[.pointer (some ⟨w.heap.size, 0, none⟩)]) ∧ w' = w.alloc (.cells #[v] 26) := by
  have hmf : ∀ (fn : Fn) (first cap : Array Value) (w : World), (Instr.makeFunc fn first cap).run Try.prog w = .ok (.func fn first cap) w := fun _ _ _ _ => rfl
  obtain ⟨A, n, c, rfl⟩ := hv
  go_enter Try.func30, Try.ntmps30
  go_wp2
  go_ret
  exact ⟨rfl, rfl⟩
set_option maxRecDepth 100000 in
set_option maxHeartbeats 4000000 in
theorem each1_none {α : Type} (encs : α → Array Value) (n n₀ N : Nat) (hn : 1 ≤ n) (q b : Nat) (w : World) (hq : q < w.heap.size) (hc : w.cell? ⟨q, 0, none⟩ = some (.pointer (some ⟨b, 0, none⟩))) (hb : b < w.heap.size) (hz : w.cell? ⟨b, 0, none⟩ = some (.map none)) :
    SeqStopsK Fence.wide n Try.prog 46 #[.pointer (some ⟨q, 0, none⟩)] encs (Below n₀) (fun xs => xs = []) (fun _ => False) N w := by
  intro l J Jx W hW hJ hJx hY h0
  have hc1 := (hW.cell (p := ⟨q, 0, none⟩) hq).trans hc
  have ci := hidd (len_zero b W ((hW.cell (p := ⟨b, 0, none⟩) hb).trans hz))
  have HJ := hidd h0
  clear hW hJ hJx hY h0 hc hz
  refine callsIn_of_wp Try.func46 rfl trivial ?_ rfl
  simp only [Try.ntmps46, List.size_toArray, List.length_cons, List.length_nil, Nat.reduceAdd, Nat.reduceSub, Array.replicate_succ, Array.replicate_zero, List.push_toArray, List.append_toArray, List.nil_append, List.cons_append]
  refine wpIn_wide.2 ?_
  go_wp2_with fail
  refine ci.out.mono ?_
  rintro e w' ⟨rfl, rfl⟩
  go_wp2_with fail
  refine wp_loop_rounds 1 ?_
  rw [rounds_succ]
  go_wp2_with fail
  exact ⟨rfl, _, results_none rfl _ _ _, ⟨_, rfl⟩, .inl ⟨_, rfl, HJ.out⟩⟩
set_option maxRecDepth 100000 in
set_option maxHeartbeats 4000000 in
theorem values1_none {α : Type} (encs : α → Array Value) (n n₀ N : Nat) (hn : 1 ≤ n) (q : Nat) (w : World) (hq : q < w.heap.size) (hc : w.cell? ⟨q, 0, none⟩ = some (.slice none 0 0)) :
    SeqStopsK Fence.wide n Try.prog 43 #[.pointer (some ⟨q, 0, none⟩)] encs (Below n₀) (fun xs => xs = []) (fun _ => False) N w := by
  intro l J Jx W hW hJ hJx hY h0
  have hc1 := (hW.cell (p := ⟨q, 0, none⟩) hq).trans hc
  have HJ := hidd h0
  clear hW hJ hJx hY h0 hc
  refine callsIn_of_wp Try.func43 rfl trivial ?_ rfl
  simp only [Try.ntmps43, List.size_toArray, List.length_cons, List.length_nil, Nat.reduceAdd, Nat.reduceSub, Array.replicate_succ, Array.replicate_zero, List.push_toArray, List.append_toArray, List.nil_append, List.cons_append]
  refine wpIn_wide.2 ?_
  go_wp2_with fail
  refine wp_loop_rounds 1 ?_
  rw [rounds_succ]
  go_wp2_with fail
  exact ⟨rfl, _, results_none rfl _ _ _, ⟨_, rfl⟩, .inl ⟨_, rfl, HJ.out⟩⟩
set_option maxRecDepth 100000 in
set_option maxHeartbeats 4000000 in
theorem append_none (q b : Nat) (w : World) (hq : q < w.heap.size) (hc : w.cell? ⟨q, 0, none⟩ = some (.pointer (some ⟨b, 0, none⟩))) (hb : b < w.heap.size) (hz : w.cell? ⟨b, 0, none⟩ = some (.map none)) :
    Calls Try.prog 59 #[.slice none 0 0, .func (.func 46) #[] #[.pointer (some ⟨q, 0, none⟩)]] w fun e w' => e = .returned (.slice none 0 0) ∧ Below w.heap.size w w' := by
  have HIT := hidd (fun W (h : Below w.heap.size w W) => each1_none (α := Empty) (fun x => x.elim) (6 - 1) 0 0 (by omega) q b W (Nat.lt_of_lt_of_le hq h.size) ((h.cell (p := ⟨q, 0, none⟩) hq).trans hc) (Nat.lt_of_lt_of_le hb h.size) ((h.cell (p := ⟨b, 0, none⟩) hb).trans hz))
  clear hc hz hq hb
  refine (callsIn_wide (n := 6)).1 ?_
  refine callsIn_of_wp_marks Try.func59 rfl trivial ?_ rfl
  simp only [Try.ntmps59, List.size_toArray, List.length_cons, List.length_nil, Nat.reduceAdd, Nat.reduceSub, Array.replicate_succ, Array.replicate_zero, List.push_toArray, List.append_toArray, List.nil_append, List.cons_append]
  gi_wp2_with fail
  obtain ⟨W5, hW5⟩ : ∃ W5, w.alloc (.cells #[.slice none 0 0] 26) = W5 := ⟨_, rfl⟩
  rw [hW5]
  have B5 : Hid (Below w.heap.size w W5) := hidd (hW5 ▸ below_new (Below.refl _ _) _)
  have s5 : w.heap.size < W5.heap.size := by rw [← hW5]; simp
  have x0 : Hid (W5.cell? ⟨w.heap.size, 0, none⟩ = some (.slice none 0 0)) := hidd (by rw [← hW5]; simp [go_sem])
  clear hW5
  refine wpIn_rangeFunc_ownF rfl (by omega) (gf := 46) (lb := #[.pointer (some ⟨q, 0, none⟩)]) rfl trivial (enters_of Try.func46 (by kernel_rfl) rfl)
    (HIT.out _ B5.out) belowK_t (belowK_b (by omega)) (Below.refl _ _) (fun x => x.elim)
    (fun pre W => Below W5.heap.size W5 W) (fun _ _ _ => False) (ownFrom_below (Nat.le_refl _) (Nat.le_refl _)) (fun _ _ _ _ _ hs _ _ => hs)
    (Below.refl _ _)
    ?a1 ?assign ?body ?done ?stop
  case a1 => exact fun x => x.elim
  case assign => exact fun l x => x.elim
  case body => exact fun l pre x => x.elim
  case stop =>
    intro D c pre W _ _ h _
    exact h.elim
  case done =>
    rintro D xs W hD rfl hI hK
    have hDl : D < W.heap.size := (Array.getElem?_eq_some_iff.1 hK).1
    have c1 := (hI.cell (p := ⟨w.heap.size, 0, none⟩) s5).trans x0.out
    have HBW := hidd (B5.out.trans (hI.mono (Nat.le_of_lt s5)))
    have HK := hidd hK
    have hs8 := hI.size
    clear hI hK
    gi_wp2_with fail
    have hgp := grownBy_putObj' W D (.deferred none)
    refine ⟨by simp, .inl ⟨_, _, rfl, run_takeDeferred HK.out, ?_⟩⟩
    refine ⟨.slice none 0 0, ?_, rfl, ?_⟩
    · simp [results, Try.results59, go_sem]
    · exact HBW.out.grown hgp (by have := HBW.out.size; omega) (fun k e => by cases e; omega)
theorem collect_none (q b : Nat) (w : World) (hq : q < w.heap.size) (hc : w.cell? ⟨q, 0, none⟩ = some (.pointer (some ⟨b, 0, none⟩))) (hb : b < w.heap.size) (hz : w.cell? ⟨b, 0, none⟩ = some (.map none)) :
    Calls Try.prog 44 #[.func (.func 46) #[] #[.pointer (some ⟨q, 0, none⟩)]] w fun e w' => e = .returned (.slice none 0 0) ∧ Below w.heap.size w w' := by
  have c := hidd (append_none q b w hq hc hb hz)
  clear hq hc hb hz
  go_enter Try.func44, Try.ntmps44
  go_wp2_with fail
  refine c.out.mono ?_
  rintro e w' ⟨rfl, hb⟩
  go_wp2_with fail
  go_ret
  exact ⟨rfl, hb⟩
theorem sorted_none (q b : Nat) (fv : Value) (hfv : fv.oneCell' = true) (w : World) (hq : q < w.heap.size) (hc : w.cell? ⟨q, 0, none⟩ = some (.pointer (some ⟨b, 0, none⟩))) (hb : b < w.heap.size) (hz : w.cell? ⟨b, 0, none⟩ = some (.map none)) :
    Calls Try.prog 31 #[.func (.func 46) #[] #[.pointer (some ⟨q, 0, none⟩)], fv] w fun e w' => e = .returned (.slice none 0 0) ∧ Below w.heap.size w w' := by
  have c := hidd (collect_none q b w hq hc hb hz)
  have cs := hidd (fun W => AnyF.slices_SortFunc_none Try.sortItem0 none 0 fv W)
  change Hid (∀ W, Calls Try.prog 45 _ _ _) at cs
  clear hq hc hb hz
  go_enter Try.func31, Try.ntmps31
  go_wp2_with fail
  refine c.out.mono ?_
  rintro e w' ⟨rfl, hb⟩
  go_wp2_with fail
  refine (cs.out _).mono ?_
  rintro e w'' ⟨rfl, rfl⟩
  go_wp2_with fail
  go_ret
  exact ⟨rfl, hb⟩
theorem all_zero (b : Nat) (w : World) (hb : b < w.heap.size) (hz : w.cell? ⟨b, 0, none⟩ = some (.map none)) :
    Calls Try.prog 12 #[.pointer (some ⟨b, 0, none⟩)] w fun e w' => ∃ q, e = .returned (.func (.func 43) #[] #[.pointer (some ⟨q, 0, none⟩)]) ∧ Below w.heap.size w w' ∧ q < w'.heap.size ∧ w'.cell? ⟨q, 0, none⟩ = some (.slice none 0 0) := by
  have c1 := hidd (fun W => each_any (some ⟨b, 0, none⟩) W)
  have c2 := hidd (fun W (h : Below w.heap.size w W) q (hq : q < W.heap.size) (hc : W.cell? ⟨q, 0, none⟩ = some (.pointer (some ⟨b, 0, none⟩))) fv hf => sorted_none q b fv hf W hq hc (Nat.lt_of_lt_of_le hb h.size) ((h.cell (p := ⟨b, 0, none⟩) hb).trans hz))
  have c3 := hidd (fun W => values_any (.slice none 0 0) ⟨_, _, _, rfl⟩ W)
  clear hb hz
  go_enter Try.func12, Try.ntmps12
  go_wp2_with fail
  refine (c1.out _).mono ?_
  rintro e w1 ⟨rfl, h1⟩
  have B1 := hidd (h1 ▸ below_new (Below.refl _ _) _ : Below w.heap.size w w1)
  have s1 : w.heap.size < w1.heap.size := by rw [h1]; simp
  have x1 : w1.cell? ⟨w.heap.size, 0, none⟩ = some (.pointer (some ⟨b, 0, none⟩)) := by rw [h1]; simp [go_sem]
  clear h1
  go_wp2_with fail
  refine (c2.out _ B1.out _ s1 x1 _ rfl).mono ?_
  rintro e w2 ⟨rfl, h2⟩
  have B2 := hidd (B1.out.trans (h2.mono B1.out.size))
  clear h2 x1 s1
  go_wp2_with fail
  refine (c3.out _).mono ?_
  rintro e w3 ⟨rfl, h3⟩
  have B3 := hidd (h3 ▸ below_new B2.out _ : Below w.heap.size w w3)
  have s3 : w2.heap.size < w3.heap.size := by rw [h3]; simp
  have x3 : w3.cell? ⟨w2.heap.size, 0, none⟩ = some (.slice none 0 0) := by rw [h3]; simp [go_sem]
  clear h3
  go_wp2_with fail
  go_ret
  exact ⟨_, rfl, B3.out, s3, x3⟩
theorem copy_zero (b : Nat) (w : World) (hz : w.cell? ⟨b, 0, none⟩ = some (.map none)) : Calls Try.prog 11 #[.pointer (some ⟨b, 0, none⟩)] w fun e w' => e = .returned (.pointer none) ∧ w = w' := by
  have c := hidd (isNone_at b none w hz)
  go_enter Try.func11, Try.ntmps11
  go_wp2_with fail
  refine c.out.mono ?_
  rintro e w' ⟨rfl, rfl⟩
  go_wp2_with fail
  go_ret
  exact ⟨rfl, rfl⟩
end Go.Proofs.Ytohkkebiilaniaa.Hp

/- Heaps: HeapNil. -/
namespace Go.Proofs.Ytohkkebiilaniaa.Hp
set_option linter.unusedVariables false
open Go.RowKit Go.Maps Go.Sort Go.Shelf Go.Proofs.Ytohkkebiilaniaa.Tp
attribute [local go_sem] Oper.semAt_some

theorem eqIn_nilFunc (f : Fn) (fs cs : Array Value) (d : Nat) (w : World) : (Op.equalIn (d + 1) 43 (.func f fs cs) .nilFunc).run Try.prog w = .ok false w := by
  simp [Op.equalIn, run_underlying Try.underlying43]
theorem eq_nilFunc (f : Fn) (fs cs : Array Value) (w : World) : (binOp .eql 43 (.func f fs cs) .nilFunc).run Try.prog w = .ok (.bool false) w := by
  simp only [binOp]
  simp [Op.equal, Op.maxDepth, eqIn_nilFunc]
set_option maxRecDepth 100000 in
set_option maxHeartbeats 4000000 in
theorem same_no (p : Value) (isn : Bool) (w : World) (hp : ∃ a, p = .pointer a) (hn : ∀ W, Below w.heap.size w W → Calls Try.prog 26 #[p] W fun e w' => e = .returned (.bool isn) ∧ W = w') :
    Calls Try.prog 13 #[.pointer none, p] w fun e w' => e = .returned (.bool isn) ∧ Below w.heap.size w w' := by
  obtain ⟨a, rfl⟩ := hp
  have c1 := hidd (fun W => isNone_no W)
  have c2 := hidd hn
  clear hn
  obtain ⟨W1, hW1⟩ : ∃ W1, (w.alloc (.cells #[.pointer a] 24)).alloc (.cells #[.bool false] 4) = W1 := ⟨_, rfl⟩
  have B1 := hidd (hW1 ▸ below_new (below_new (Below.refl _ _) _) _ : Below w.heap.size w W1)
  have r0 : W1.cell? ⟨w.heap.size, 0, none⟩ = some (.pointer a) := by rw [← hW1]; simp [go_sem]
  have r1 : W1.cell? ⟨w.heap.size + 1, 0, none⟩ = some (.bool false) := by rw [← hW1]; simp [go_sem]
  have r2 : W1.frozen? ⟨w.heap.size + 1, 0, none⟩ = false := by rw [← hW1]; simp [go_sem]
  have HW := hidd hW1
  clear hW1
  refine (callsIn_wide (n := 6)).1 ?_
  refine callsIn_of_wp_marks Try.func13 rfl trivial ?_ rfl
  simp only [Try.ntmps13, List.size_toArray, List.length_cons, List.length_nil, Nat.reduceAdd, Nat.reduceSub, Array.replicate_succ, Array.replicate_zero, List.push_toArray, List.append_toArray, List.nil_append, List.cons_append]
  gi_wp2_with fail
  rw [HW.out]
  refine ⟨trivial, ?_⟩; gi_at_call 26; refine (callsIn_wide.2 (c1.out _)).mono ?_; rintro e w' ⟨rfl, rfl⟩
  gi_wp2_with fail
  refine ⟨trivial, ?_⟩
  gi_wp2_with fail
  refine ⟨trivial, ?_⟩; gi_at_call 26; refine (callsIn_wide.2 (c1.out _)).mono ?_; rintro e w' ⟨rfl, rfl⟩
  gi_wp2_with fail
  refine ⟨trivial, ?_⟩; gi_at_call 26; refine (callsIn_wide.2 (c2.out _ B1.out)).mono ?_; rintro e w' ⟨rfl, rfl⟩
  gi_wp2_with fail
  have hrc := World.cell?_setCell_same' W1 ⟨w.heap.size + 1, 0, none⟩ (.bool isn) (by rw [r1]; rfl)
  refine ⟨.bool isn, ?_, rfl, ?_⟩
  · simp [results, Try.results13, go_sem, hrc]
  · exact B1.out.setCell (p := ⟨w.heap.size + 1, 0, none⟩) (by simp) (.bool isn)
end Go.Proofs.Ytohkkebiilaniaa.Hp

