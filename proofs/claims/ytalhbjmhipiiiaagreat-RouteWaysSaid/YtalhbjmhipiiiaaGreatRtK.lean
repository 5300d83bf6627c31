/- Routes: what lies in memory of them; the links of a way, found. -/
import Derived.Test.YtalhbjmhipiiiaaGreatRtJ
import Derived.Test.YtalhbjmhipiiiaaGreatRtO
namespace Go.Proofs.YtalhbjmhipiiiaaGreat.Tp
set_option linter.unusedVariables false
open Go.RowKit Go.Maps

def farOf (n : Int) (L : List Lk) (done : Bool) : FarT := if done = true then farN n L (fun _ _ => 0) n.toNat else fun _ _ => 0
def lksOf (n : Int) (L : List Lk) (done : Bool) : LksT := if done = true then lksN n L n.toNat else fun _ _ => []
structure RoutesAt (W : World) (B r bw m : Nat) (n : Int) (L : List Lk) (done : Bool) : Prop where
  ways : WaysAt W W.heap.size bw m n L (farOf n L done) (lksOf n L done)
  blk : W.heap[r]? = some (.cells #[.int .u32 (if done = true then 1 else 0), .int .i32 0, .int .u32 0, .pointer (some ⟨bw, 0, none⟩)] 72 (0, 0))
  lo : B ≤ bw
  up : bw < r
theorem RoutesAt.lt {W : World} {B r bw m : Nat} {n : Int} {L : List Lk} {done : Bool} (h : RoutesAt W B r bw m n L done) : r < W.heap.size := (Array.getElem?_eq_some_iff.1 h.blk).1
theorem RoutesAt.below {W Y : World} {B r bw m : Nat} {n : Int} {L : List Lk} {done : Bool} (h : RoutesAt W B r bw m n L done) (hb : Below W.heap.size W Y) : RoutesAt Y B r bw m n L done := ⟨h.ways.below hb, (hb.block _ h.lt).trans h.blk, h.lo, h.up⟩
theorem RoutesAt.c3 {W : World} {B r bw m : Nat} {n : Int} {L : List Lk} {done : Bool} (h : RoutesAt W B r bw m n L done) : W.cell? ⟨r, 3, none⟩ = some (.pointer (some ⟨bw, 0, none⟩)) := by simp [World.cell?, h.blk]
/-- a store into the routes' own block leaves the ways as they lie. -/
theorem WaysAt.setR {W : World} {Bd bw m r : Nat} {n : Int} {L : List Lk} {far : FarT} {lks : LksT} (h : WaysAt W Bd bw m n L far lks) {a b c d : Value} {ty : TypeId} {f : Nat × Nat} (hr : W.heap[r]? = some (.cells #[a, b, c, d] ty f)) (hbr : bw < r)
    (hno : ∀ z, a ≠ .int .i64 z ∧ b ≠ .int .i64 z ∧ c ≠ .int .i64 z ∧ d ≠ .int .i64 z) (j : Nat) (v : Value) : WaysAt (W.setCell ⟨r, j, none⟩ v) Bd bw m n L far lks where
  base := by
    obtain ⟨wc, hm, hl, hw⟩ := h.base
    exact ⟨wc, hm, hl, hw.setCell (p := ⟨r, j, none⟩) (by show wc.heap.size ≤ r; omega) _⟩
  lt := h.lt
  le := by simpa [World.setCell] using h.le
  blk := by
    obtain ⟨cs, hc⟩ := h.blk
    exact ⟨cs, (Below.heap_setCell _ _ _ _ (by show bw ≠ r; omega)).trans hc⟩
  map := (World.cell?_setCell_other _ _ _ _ (fun e => by have := congrArg Addr.block e; simp at this; omega)).trans h.map
  far := fun x t hx ht => (World.cell?_setCell_other _ _ _ _ (fun e => by have := congrArg Addr.block e; simp at this; omega)).trans (h.far x t hx ht)
  links := fun x t hx ht => by
    obtain ⟨A, k, g1, g2, g3, g4, g5⟩ := h.links x t hx ht
    refine ⟨A, k, (World.cell?_setCell_other _ _ _ _ (fun e => by have := congrArg Addr.block e; simp at this; omega)).trans g1, g2, g3, g4.set _ (fun ad e hl heq => ?_), g5⟩
    obtain ⟨ad', e', _, hc⟩ := g4 hl
    rw [e] at e'
    cases e'
    have hc0 := hc 0 (lks x t)[0] (List.getElem?_eq_getElem hl) 0 _ rfl
    have hb : (ad.add (0 * 1 + 0)).block = r := by rw [block_of_add]; exact heq
    have hn := hno ((lks x t)[0])
    unfold World.cell? at hc0
    rw [hb, hr] at hc0
    simp only at hc0
    split at hc0
    · cases hc0
    · generalize (ad.add (0 * 1 + 0)).off = o at hc0
      match o, hc0 with
      | 0, h => exact hn.1 (by simpa using h)
      | 1, h => exact hn.2.1 (by simpa using h)
      | 2, h => exact hn.2.2.1 (by simpa using h)
      | 3, h => exact hn.2.2.2 (by simpa using h)
      | k + 4, h => simp at h
theorem heap_set4 {W : World} {r : Nat} {a b c d : Value} {ty : TypeId} {f : Nat × Nat} (hr : W.heap[r]? = some (.cells #[a, b, c, d] ty f)) (j : Nat) (v : Value) : (W.setCell ⟨r, j, none⟩ v).heap[r]? = some (.cells (#[a, b, c, d].setIfInBounds j v) ty f) := by
  obtain ⟨hlt, hk⟩ := Array.getElem?_eq_some_iff.1 hr
  show (W.heap.modify r _)[r]? = _
  rw [Array.getElem?_eq_getElem (by rw [Array.size_modify]; exact hlt), Array.getElem_modify_self, hk]
  rfl
theorem below_setR {B r j : Nat} (W : World) (v : Value) (h : B ≤ r) : Below B W (W.setCell ⟨r, j, none⟩ v) := (Below.refl B W).setCell (p := ⟨r, j, none⟩) h _
theorem onceR_any (B r bw m : Nat) (n : Int) (L : List Lk) (hV : Valid n L) (done : Bool) (W : World) (h : RoutesAt W B r bw m n L done) :
    Calls Tryz.prog 47 #[.pointer (some ⟨r, 0, none⟩), .func (.func 48) #[.pointer (some ⟨bw, 0, none⟩)] #[]] W fun e w' => e = .returned (.tuple #[]) ∧ RoutesAt w' B r bw m n L true ∧ Below B W w' ∧ (done = true → w' = W) := by
  cases done with
  | true => exact (once_done ⟨r, 0, none⟩ _ W (by simp [World.cell?, h.blk])).mono fun e w' ⟨he, hw⟩ => ⟨he, hw ▸ h, hw ▸ Below.refl _ _, fun _ => hw⟩
  | false =>
    have hup := h.up
    have hlo := h.lo
    have hlt := h.lt
    have hb1 : (W.setCell ⟨r, 1, none⟩ (.int .i32 1)).heap[r]? = some (.cells #[.int .u32 0, .int .i32 1, .int .u32 0, .pointer (some ⟨bw, 0, none⟩)] 72 (0, 0)) := by
      rw [heap_set4 h.blk]; rfl
    have hw1 : WaysAt (W.setCell ⟨r, 1, none⟩ (.int .i32 1)) W.heap.size bw m n L (fun _ _ => 0) (lksN n L 0) := (h.ways.setR h.blk hup (fun z => ⟨by simp, by simp, by simp, by simp⟩) 1 (.int .i32 1)).lks_congr (fun x u _ _ => by unfold lksN lksOf; rw [if_neg (by omega)]; rfl)
    have hsz : (W.setCell ⟨r, 1, none⟩ (.int .i32 1)).heap.size = W.heap.size := by simp [World.setCell]
    have hwk := work_any bw m n L hV (fun _ _ => 0) (W.setCell ⟨r, 1, none⟩ (.int .i32 1)) (hw1.more (by omega) (Nat.le_refl _))
    refine (once_first r 48 #[.pointer (some ⟨bw, 0, none⟩)] #[] (fun w' => WaysAt w' w'.heap.size bw m n L (farN n L (fun _ _ => 0) n.toNat) (lksN n L n.toNat) ∧ OnlyB bw (W.setCell ⟨r, 1, none⟩ (.int .i32 1)) w') W (by simp [World.cell?, h.blk]) (by simp [World.cell?, h.blk]) (by simp [World.frozen?, h.blk]) (by simp [World.frozen?, h.blk])
      (fun w => by simp [callFunc, Tryz.func48, Tryz.f48, mark]) hwk (fun w' ⟨_, hO⟩ => ?_)).mono ?_
    · have hk : w'.heap[r]? = some (.cells #[.int .u32 0, .int .i32 1, .int .u32 0, .pointer (some ⟨bw, 0, none⟩)] 72 (0, 0)) := (hO.block r (by omega) (by simp; omega)).trans hb1
      exact ⟨by simp [World.cell?, hk], by simp [World.cell?, hk], by simp [World.frozen?, hk], by simp [World.frozen?, hk]⟩
    · rintro e w' ⟨he, wm, ⟨hA, hO⟩, rfl⟩
      have hk : wm.drew.heap[r]? = some (.cells #[.int .u32 0, .int .i32 1, .int .u32 0, .pointer (some ⟨bw, 0, none⟩)] 72 (0, 0)) := (hO.block r (by omega) (by simp; omega)).trans hb1
      have hA' : WaysAt wm.drew wm.drew.heap.size bw m n L (farN n L (fun _ _ => 0) n.toNat) (lksN n L n.toNat) := hA.below (Below.drew (Below.refl _ _))
      have hk2 := heap_set4 hk 0 (.int .u32 1)
      have hA2 := hA'.setR hk hup (fun z => ⟨by simp, by simp, by simp, by simp⟩) 0 (.int .u32 1)
      have hk3 := heap_set4 hk2 1 (.int .i32 0)
      have hA3 := hA2.setR hk2 hup (fun z => ⟨by simp, by simp, by simp, by simp⟩) 1 (.int .i32 0)
      refine ⟨he, ⟨hA3.more (by simp [World.setCell]) (Nat.le_refl _), ?_, hlo, hup⟩, ?_, fun h => by cases h⟩
      · rw [hk3]; rfl
      · have q1 := (below_setR (B := B) (j := 1) W (.int .i32 1) (by omega : B ≤ r)).trans ((hO.below hlo (by omega)))
        exact ((q1.trans (Below.drew (Below.refl _ _))).trans (below_setR _ _ (by omega))).trans (below_setR _ _ (by omega))
end Go.Proofs.YtalhbjmhipiiiaaGreat.Tp
