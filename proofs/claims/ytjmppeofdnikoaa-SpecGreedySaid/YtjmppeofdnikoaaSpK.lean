/- Is one of some specs none; some specs brought together by two and two. -/
import Derived.Test.YtjmppeofdnikoaaSpJ
namespace Go.Proofs.Ytjmppeofdnikoaa
open Go.RowKit RowK

def rightS (x : Spc) : Bool := rightB x.1 x.2.1 x.2.2.1 x.2.2.2.1 x.2.2.2.2
def allRight (l : List Spc) : Bool := l.all rightS
def spAt (L : List Spc) (i : Nat) : Spc := L.getD i (0, 0, 0, 0, 0)
theorem spAt_get {L : List Spc} {i : Nat} (h : i < L.length) : L[i] = spAt L i := by
  simp [spAt, List.getD_eq_getElem?_getD, List.getElem?_eq_getElem h]
theorem Lie.spec {w : World} {B : Nat} {A : Option Addr} {l : List Spc} (h : Lie specV 5 w B A l) (i : Nat) (hi : i < l.length) :
    ∃ ad, A = some ad ∧ (ad.add (i * 5)).block < B ∧ w.cell? (ad.add (i * 5)) = some (.int .i64 (spAt l i).1) ∧ w.cell? ⟨(ad.add (i * 5)).block, (ad.add (i * 5)).off + 1, none⟩ = some (.int .i64 (spAt l i).2.1) ∧
      w.cell? ⟨(ad.add (i * 5)).block, (ad.add (i * 5)).off + 2, none⟩ = some (.int .i64 (spAt l i).2.2.1) ∧ w.cell? ⟨(ad.add (i * 5)).block, (ad.add (i * 5)).off + 3, none⟩ = some (.int .i64 (spAt l i).2.2.2.1) ∧ w.cell? ⟨(ad.add (i * 5)).block, (ad.add (i * 5)).off + 4, none⟩ = some (.int .i64 (spAt l i).2.2.2.2) := by
  obtain ⟨ad, e, hB, hc⟩ := h (by omega)
  have hx : l[i]? = some l[i] := List.getElem?_eq_getElem hi
  rw [← spAt_get hi]
  have h0 := hc i _ hx 0 _ rfl
  have h1 := hc i _ hx 1 _ rfl
  have h2 := hc i _ hx 2 _ rfl
  have h3 := hc i _ hx 3 _ rfl
  have h4 := hc i _ hx 4 _ rfl
  rw [← add_of_add] at h1 h2 h3 h4
  exact ⟨ad, e, by rw [block_of_add]; exact hB, h0, h1, h2, h3, h4⟩

/-- where the search ends. -/
def FoundEnd (l : List Spc) (w : World) (e : Ending) (w' : World) : Prop :=
  ∃ k : Int, e = .returned (.int .i64 k) ∧ decide (0 ≤ k) = !allRight l ∧ Below w.heap.size w w'
set_option maxHeartbeats 1000000 in
theorem index_any (A : Option Addr) (L : List Spc) (n c : Nat) (hn : L.length = n) (hm : n ≤ 1000000) (w : World) (hl : Lie specV 5 w w.heap.size A L) :
    Calls Try.prog 90 #[.slice A n c, .func (Fn.func 46) #[] #[]] w (FoundEnd L w) := by
  have HL := hidd hl
  have HN := hidd hn
  clear hl hn
  go_enter Try.func90, Try.ntmps90
  go_wp2_with fail
  go_loopg [8] (n + 1) (fun k s wr => ∃ i : Nat, i ≤ n ∧ i + k = n + 1 ∧ allRight (L.take i) = true ∧ s = .int .i64 (i : Int) ∧ Below w.heap.size w wr)
  case atStart => exact ⟨0, by omega, by omega, rfl, rfl, Below.refl _ _⟩
  case round =>
    obtain ⟨i, hi, hk, ha, rfl, hbl⟩ := hrel
    have HK := hidd hk
    have HA := hidd ha
    have HB := hidd hbl
    clear hk ha
    by_cases hlt : i < n
    · obtain ⟨ad, rfl, hadb, x0, x1, x2, x3, x4⟩ := (HL.out.keep hbl).spec i (by rw [HN.out]; exact hlt)
      have htk : allRight (L.take (i + 1)) = (allRight (L.take i) && rightS (spAt L i)) := by
        have hi' : i < L.length := by rw [HN.out]; exact hlt
        unfold allRight
        rw [List.take_succ_eq_append_getElem hi', List.all_append, spAt_get hi']; simp
      have hal : rightS (spAt L i) = false → allRight L = false := by
        intro h
        have hi' : i < L.length := by rw [HN.out]; exact hlt
        unfold allRight
        exact List.all_eq_false.2 ⟨_, List.getElem_mem hi', by rw [spAt_get hi', h]; simp⟩
      have HTK := hidd htk
      have HAL := hidd hal
      have cn := hidd (fun W => isNone_any (spAt L i).1 (spAt L i).2.1 (spAt L i).2.2.1 (spAt L i).2.2.2.1 (spAt L i).2.2.2.2 W)
      unfold rightS at HTK HAL
      clear htk hal hbl
      generalize rightB (spAt L i).1 (spAt L i).2.1 (spAt L i).2.2.1 (spAt L i).2.2.2.1 (spAt L i).2.2.2.2 = R at *
      generalize (spAt L i).1 = a0 at *
      generalize (spAt L i).2.1 = a1 at *
      generalize (spAt L i).2.2.1 = a2 at *
      generalize (spAt L i).2.2.2.1 = a3 at *
      generalize (spAt L i).2.2.2.2 = a4 at *
      cases R
      · go_wp2_with fail
        refine (cn.out _).mono ?_
        rintro e w1 ⟨rfl, hb1⟩
        go_wp2_with fail
        go_ret
        exact ⟨i, rfl, by rw [HAL.out (by trivial)]; exact decide_eq_true (by omega), HB.out.trans (hb1.mono HB.out.size)⟩
      · go_wp2_with fail
        refine (cn.out _).mono ?_
        rintro e w1 ⟨rfl, hb1⟩
        go_wp2_with fail
        have hk := HK.out
        go_roundg (gk - 1)
        case measure => omega
        case rel => exact ⟨i + 1, by omega, by omega, by rw [HTK.out, HA.out]; rfl, by go_num, HB.out.trans (hb1.mono HB.out.size)⟩
    · go_wp2_with fail
      go_ret
      have ha := HA.out
      have hn := HN.out
      rw [List.take_of_length_le (by omega)] at ha
      exact ⟨-1, rfl, by rw [ha]; decide, HB.out⟩
theorem contains_any (A : Option Addr) (L : List Spc) (n c : Nat) (hn : L.length = n) (hm : n ≤ 1000000) (w : World) (hl : Lie specV 5 w w.heap.size A L) :
    Calls Try.prog 65 #[.slice A n c, .func (Fn.func 46) #[] #[]] w fun e w' => e = .returned (.bool (!allRight L)) ∧ Below w.heap.size w w' := by
  have ci := hidd (index_any A L n c hn hm w hl)
  clear hl hn
  go_enter Try.func65, Try.ntmps65
  go_wp2_with fail
  refine ci.out.mono ?_
  rintro e w1 ⟨k, rfl, hk, hb1⟩
  have HK := hidd hk
  clear hk
  go_wp2_with fail
  go_ret
  exact ⟨by rw [← HK.out]; rfl, hb1⟩
/-- none of them, or one of them none: nothing can be brought together. -/
def noneB (L : List Spc) : Bool := decide (L.length = 0) || !allRight L
theorem areNone_any (A : Option Addr) (L : List Spc) (n c : Nat) (hn : L.length = n) (hm : n ≤ 1000000) (w : World) (hl : Lie specV 5 w w.heap.size A L) :
    Calls Try.prog 42 #[.slice A n c] w fun e w' => e = .returned (.bool (noneB L)) ∧ Below w.heap.size w w' := by
  have ci := hidd (contains_any A L n c hn hm w hl)
  have hb : noneB L = (decide (L.length = 0) || !allRight L) := rfl
  rw [hn] at hb
  have HB := hidd hb
  generalize noneB L = R at *
  generalize allRight L = T at *
  clear hl hn hb
  by_cases h0 : n = 0
  · subst h0
    go_enter Try.func42, Try.ntmps42
    go_wp2_with fail
    go_ret
    exact ⟨by rw [HB.out]; rfl, Below.refl _ _⟩
  · have g1 : ((n : Int) == 0) = false := beq_eq_false_iff_ne.2 (by omega)
    have g2 : (n == 0) = false := beq_eq_false_iff_ne.2 h0
    have g3 := hidd (decide_eq_false h0)
    clear h0
    go_enter Try.func42, Try.ntmps42
    go_wp2_with fail
    refine ci.out.mono ?_
    rintro e w1 ⟨rfl, hb1⟩
    go_wp2_with fail
    go_ret
    exact ⟨by rw [HB.out, g3.out]; simp, hb1⟩
end Go.Proofs.Ytjmppeofdnikoaa
