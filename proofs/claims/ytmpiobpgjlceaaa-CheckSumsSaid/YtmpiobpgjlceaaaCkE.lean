/- Sums under way: bytes are added to what is under way. -/
import Derived.Test.YtmpiobpgjlceaaaCkD
namespace Go.Proofs.Ytmpiobpgjlceaaa
set_option linter.unusedVariables false
open Go.RowKit Go.Shelf
attribute [local go_sem] Oper.semAt_some

/-- a sum under way lies in block b. -/
structure AdderAt (W : World) (b : Nat) (s : St) : Prop where
  lt : b < W.heap.size
  c0 : W.cell? ⟨b, 0, none⟩ = some (.int .u8 s.hi)
  c1 : W.cell? ⟨b, 1, none⟩ = some (.bool s.g)
  c2 : W.cell? ⟨b, 2, none⟩ = some (.int .u16 s.all)
  c3 : W.cell? ⟨b, 3, none⟩ = some (.bool true)
  f0 : W.frozen? ⟨b, 0, none⟩ = false
  f1 : W.frozen? ⟨b, 1, none⟩ = false
  f2 : W.frozen? ⟨b, 2, none⟩ = false
/-- all that lay there but block b lies as it lay. -/
structure But (b : Nat) (w w' : World) : Prop where
  os : w'.os = w.os
  tape : w'.tape = w.tape
  output : w'.output = w.output
  size : w.heap.size ≤ w'.heap.size
  block : ∀ k, k < w.heap.size → k ≠ b → w'.heap[k]? = w.heap[k]?
theorem But.refl (b : Nat) (w : World) : But b w w := ⟨rfl, rfl, rfl, Nat.le_refl _, fun _ _ _ => rfl⟩
theorem But.trans {b : Nat} {x y z : World} (h : But b x y) (k : But b y z) : But b x z :=
  ⟨k.os.trans h.os, k.tape.trans h.tape, k.output.trans h.output, Nat.le_trans h.size k.size, fun i hi hn => (k.block i (Nat.lt_of_lt_of_le hi h.size) hn).trans (h.block i hi hn)⟩
theorem below_but {w w' : World} (h : Below w.heap.size w w') (b : Nat) : But b w w' := ⟨h.os, h.tape, h.output, h.size, fun k hk _ => h.block k hk⟩
theorem But.set {b : Nat} (w : World) (o : Nat) (v : Value) : But b w (w.setCell ⟨b, o, none⟩ v) :=
  ⟨rfl, rfl, rfl, by simp [World.setCell], fun k hk hn => Below.heap_setCell _ _ _ _ hn⟩
theorem But.below {b B : Nat} {w w' : World} (h : But b w w') (hb : B ≤ b) (hB : B ≤ w.heap.size) : Below B w w' := ⟨h.os, h.tape, h.output, h.size, fun k hk => h.block k (by omega) (by omega)⟩
theorem But.grown {b : Nat} {x y z : World} (h : But b x y) {row : Option Nat} (hg : y.grownBy z row) (hr : ∀ r, row = some r → x.heap.size ≤ r) : But b x z :=
  ⟨hg.os.trans h.os, hg.tape.trans h.tape, hg.output.trans h.output, Nat.le_trans h.size hg.size, fun k hk hn => (hg.block k (Nat.lt_of_lt_of_le hk h.size) (fun e => by have := hr k e.symm; omega)).trans (h.block k hk hn)⟩
theorem AdderAt.grown {W W' : World} {b : Nat} {s : St} (h : AdderAt W b s) {row : Option Nat} (hg : W.grownBy W' row) (hr : row ≠ some b) : AdderAt W' b s := by
  have e := hg.block b h.lt (fun e => hr e.symm)
  have c := fun o => World.cell?_of_block (w := W) (w' := W') (a := ⟨b, o, none⟩) e
  have f := fun o => World.frozen?_of_block (w := W) (w' := W') (a := ⟨b, o, none⟩) e
  exact ⟨Nat.lt_of_lt_of_le h.lt hg.size, (c 0).trans h.c0, (c 1).trans h.c1, (c 2).trans h.c2, (c 3).trans h.c3, (f 0).trans h.f0, (f 1).trans h.f1, (f 2).trans h.f2⟩
theorem AdderAt.below {W W' : World} {b : Nat} {s : St} (h : AdderAt W b s) (hb : Below W.heap.size W W') : AdderAt W' b s := by
  have e := hb.block b h.lt
  have c := fun o => World.cell?_of_block (w := W) (w' := W') (a := ⟨b, o, none⟩) e
  have f := fun o => World.frozen?_of_block (w := W) (w' := W') (a := ⟨b, o, none⟩) e
  exact ⟨Nat.lt_of_lt_of_le h.lt hb.size, (c 0).trans h.c0, (c 1).trans h.c1, (c 2).trans h.c2, (c 3).trans h.c3, (f 0).trans h.f0, (f 1).trans h.f1, (f 2).trans h.f2⟩
theorem AdderAt.but {W W' : World} {b b' : Nat} {s : St} (h : AdderAt W b s) (hb : But b' W W') (hn : b ≠ b') : AdderAt W' b s := by
  have e := hb.block b h.lt hn
  have c := fun o => World.cell?_of_block (w := W) (w' := W') (a := ⟨b, o, none⟩) e
  have f := fun o => World.frozen?_of_block (w := W) (w' := W') (a := ⟨b, o, none⟩) e
  exact ⟨Nat.lt_of_lt_of_le h.lt hb.size, (c 0).trans h.c0, (c 1).trans h.c1, (c 2).trans h.c2, (c 3).trans h.c3, (f 0).trans h.f0, (f 1).trans h.f1, (f 2).trans h.f2⟩
theorem AdderAt.drew {W : World} {b : Nat} {s : St} (h : AdderAt W b s) : AdderAt W.drew b s := ⟨h.lt, h.c0, h.c1, h.c2, h.c3, h.f0, h.f1, h.f2⟩
theorem But.drew {b : Nat} {w W : World} (h : But b w W) : But b w W.drew := ⟨h.os, h.tape, h.output, h.size, h.block⟩
theorem AdderAt.half {W : World} {b : Nat} {s : St} (h : AdderAt W b s) (x : Int) (g : Bool) : AdderAt (halfT b (x, g) W) b ⟨x, g, s.all⟩ := by
  obtain ⟨h0, h1, h2, h3, h4, h5, h6, h7⟩ := h
  unfold halfT
  exact ⟨by simpa [World.setCell] using h0, by simp [go_sem, *], by simp [go_sem, *], by simp [go_sem, *], by simp [go_sem, *], by simp [go_sem, *], by simp [go_sem, *], by simp [go_sem, *]⟩
theorem AdderAt.put {W : World} {b : Nat} {s : St} (h : AdderAt W b s) (x : Int) : AdderAt (W.setCell ⟨b, 2, none⟩ (.int .u16 x)) b ⟨s.hi, s.g, x⟩ := by
  obtain ⟨h0, h1, h2, h3, h4, h5, h6, h7⟩ := h
  exact ⟨by simpa [World.setCell] using h0, by simp [go_sem, *], by simp [go_sem, *], by simp [go_sem, *], by simp [go_sem, *], by simp [go_sem, *], by simp [go_sem, *], by simp [go_sem, *]⟩
theorem feed_pass (a : Int) : ∀ (l : List Int) (q : Hf × List Int), feedAll ⟨q.1.1, q.1.2, q.2.foldl put a⟩ l = ⟨(l.foldl pass q).1.1, (l.foldl pass q).1.2, (l.foldl pass q).2.foldl put a⟩
  | [], _ => rfl
  | x :: l, q => by
    have e : feed ⟨q.1.1, q.1.2, q.2.foldl put a⟩ x = ⟨(pass q x).1.1, (pass q x).1.2, (pass q x).2.foldl put a⟩ := by
      unfold feed pass
      cases h : q.1.2 <;> simp
    show feedAll (feed _ x) l = _
    rw [e, feed_pass a l]
    rfl
theorem feed_passAll (s : St) (l : List Int) : feedAll s l = ⟨(passAll (s.hi, s.g) l).1.1, (passAll (s.hi, s.g) l).1.2, (passAll (s.hi, s.g) l).2.foldl put s.all⟩ := feed_pass s.all l ((s.hi, s.g), [])
theorem foldl_w {l : List Int} : ∀ {a : Int}, W16 a → (∀ x ∈ l, W16 x) → W16 (l.foldl put a) := by
  induction l with
  | nil => intro a h _; exact h
  | cons x l ih => intro a h hl; exact ih (put_w h (hl x (by simp))) (fun y hy => hl y (by simp [hy]))

set_option maxRecDepth 100000 in
set_option maxHeartbeats 4000000 in
theorem add_any (b : Nat) (s : St) (hs : s.ok) (A : Option Addr) (k : Nat) (cs : List Part) (hlen : cs.length ≤ 1000000) (hlen2 : ∀ c ∈ cs, c.2.length ≤ 1000000) (hby : Bytes (allBytes cs)) (w : World) (hA : AdderAt w b s) (hP : Parts w (fun j => j < w.heap.size ∧ j ≠ b) A cs) :
    Calls Try.prog 27 #[.pointer (some ⟨b, 0, none⟩), .slice A cs.length k] w fun e w' => e = .returned (.tuple #[]) ∧ AdderAt w' b (feedAll s (allBytes cs)) ∧ But b w w' := by
  have HA := hidd hA
  have HP := hidd hP
  have hb := hA.lt
  have HS := hidd hs
  clear hA hP hs
  refine (callsIn_wide (n := 6)).1 ?_
  refine callsIn_of_wp_marks Try.func27 rfl trivial ?_ rfl
  simp only [Try.ntmps27, List.size_toArray, List.length_cons, List.length_nil, Nat.reduceAdd, Nat.reduceSub, Array.replicate_succ, Array.replicate_zero, List.push_toArray, List.append_toArray, List.nil_append, List.cons_append]
  gi_wp2_with (refine ⟨trivial, ?_⟩; gi_at_call 31; refine (pairs_in Fence.wide _ trivial rfl _ _ _ _ _).mono ?_; rintro e w1 ⟨rfl, rfl⟩)
  obtain ⟨W0, hW0⟩ : ∃ W0 : World, ((w.alloc (.cells #[.pointer (some ⟨b, 0, none⟩)] 27)).alloc (.cells #[.pointer (some ⟨b, 0, none⟩)] 59)).alloc (.cells #[.slice A cs.length k] 22) = W0 := ⟨_, rfl⟩
  have hB0 : Below w.heap.size w W0 := by rw [← hW0]; (repeat' (first | (with_reducible exact Below.refl _ _) | (with_reducible assumption) | (with_reducible apply Below.setCell) | (with_reducible apply Below.alloc) | (with_reducible apply Below.drew) | (with_reducible apply below_drewN) | (with_reducible refine Below.trans ?_ (Below.mono (by assumption) ?_)) | omega | (simp; done) | (simp; omega)))
  have q0 : W0.cell? ⟨w.heap.size, 0, none⟩ = some (.pointer (some ⟨b, 0, none⟩)) := by rw [← hW0]; simp [go_sem]
  have q1 : W0.cell? ⟨w.heap.size + 1, 0, none⟩ = some (.pointer (some ⟨b, 0, none⟩)) := by rw [← hW0]; simp [go_sem]
  have q2 : W0.cell? ⟨w.heap.size + 1 + 1, 0, none⟩ = some (.slice A cs.length k) := by rw [← hW0]; simp [go_sem]
  have hsz : W0.heap.size = w.heap.size + 3 := by rw [← hW0]; simp
  have hA0 : AdderAt W0 b s := HA.out.below hB0
  have hP0 : Parts W0 (fun j => j < W0.heap.size ∧ j ≠ b) A cs := HP.out.to (fun j hj => ⟨⟨by omega, hj.2⟩, hB0.block j hj.1⟩)
  rw [hW0]
  clear hW0
  have HC : Hid (∀ (X : World), But b W0 X → ∀ j, j < W0.heap.size → j ≠ b → ∀ o, X.cell? ⟨j, o, none⟩ = W0.cell? ⟨j, o, none⟩) := fun X hX j h1 h2 o => World.cell?_of_block (hX.block j h1 h2)
  refine wpIn_rangeFunc_state (σ := Hf) (α := Int) rfl (by omega) (gf := 33) (lb := #[.pointer (some ⟨w.heap.size + 1 + 1, 0, none⟩), .pointer (some ⟨w.heap.size + 1, 0, none⟩)]) rfl trivial (enters_of Try.func33 (by kernel_rfl) rfl)
    (I := fun h pre W => (∀ x ∈ pre, W16 x) ∧ AdderAt W b ⟨h.1, h.2, pre.foldl put s.all⟩ ∧ But b W0 W)
    (pairs1_in (6 - 1) (by omega) b (fun j => j < W0.heap.size ∧ j ≠ b) (w.heap.size + 1 + 1) (w.heap.size + 1) A k cs hlen hlen2 hby (s.hi, s.g) ⟨HS.out.1, HS.out.2.1, HS.out.2.2.2⟩ _ ?reads) (fun _ => rfl)
    (fun st X j hj => by unfold halfT; rw [Below.heap_setCell _ _ _ _ (by simp; omega), Below.heap_setCell _ _ _ _ (by simp; omega)])
    (fun st st' pre X h => ⟨h.1, h.2.1.half st'.1 st'.2, (h.2.2.trans (But.set _ _ _)).trans (But.set _ _ _)⟩)
    (fun st pre X Y row h hg hr => ⟨h.1, h.2.1.grown hg (fun e => by have := (hr b e).1; omega), h.2.2.grown hg (fun r e => (hr r e).1)⟩)
    ⟨by simp, hA0, But.refl _ _⟩
    (fun x => { tmps := #[.pointer (some ⟨b, 0, none⟩), .slice A cs.length k, .pointer (some ⟨w.heap.size, 0, none⟩), undef, .int .u16 x, .pointer (some ⟨b, 0, none⟩), .pointer (some ⟨b, 0, none⟩), .pointer (some ⟨b, 0, none⟩), .slice A cs.length k,
          .func (.func 33) #[] #[.pointer (some ⟨w.heap.size + 1 + 1, 0, none⟩), .pointer (some ⟨w.heap.size + 1, 0, none⟩)], .int .u16 x, undef, undef, undef, undef, undef, undef, undef, undef, undef], defers := [] }) ?assign ?body ?done
  case reads =>
    rintro h pre W ⟨_, hA, hB⟩
    exact ⟨hA.c0, hA.c1, hA.f0, hA.f1, (HC.out _ hB _ (by omega) (by omega) _).trans q2, (HC.out _ hB _ (by omega) (by omega) _).trans q1, hP0.to (fun j hj => ⟨hj, hB.block j hj.1 hj.2⟩)⟩
  case assign =>
    intro l x W K hK
    gi_wp2
    exact hK
  case body =>
    rintro l ⟨h0, h1⟩ pre x W hG ⟨hW, hA, hB⟩
    have y0 := (HC.out _ hB w.heap.size (by omega) (by omega) 0).trans q0
    have y2 := hA.c2
    have y3 := hA.f2
    have hw : W16 (pre.foldl put s.all) := foldl_w HS.out.2.2.1 hW
    have ct := hidd (fun W => together_any (pre.foldl put s.all) x hw hG W)
    have hput : (pre ++ [x]).foldl put s.all = put (pre.foldl put s.all) x := by simp
    have HA := hidd hA
    have HB := hidd hB
    have HPU := hidd hput
    have hW2 : ∀ y ∈ pre ++ [x], W16 y := fun y hy => by
      rcases List.mem_append.1 hy with h | h
      · exact hW y h
      · have : y = x := by simpa using h
        subst this; exact hG
    have HW2 := hidd hW2
    dsimp only at y2
    clear hA hB hput hW hW2 hw hG q0 q1 q2
    generalize pre.foldl put s.all = t at *
    have hmx : Try.prog.follows .mixedOrders = true := by kernel_rfl
    gi_wp2
    gi_region_with_o (first | (refine ⟨trivial, ?_⟩; gi_at_call 28; refine (CallsIn.inRound l (callsIn_wide.2 (ct.out _))).mono ?_; rintro e w1 ⟨rfl, rfl⟩) | (gi_at_call 28; refine (CallsIn.inRound l (callsIn_wide.2 (ct.out _))).mono ?_; rintro e w1 ⟨rfl, rfl⟩))
    all_goals gi_wp2
    all_goals exact ⟨((KeepsOthers.setCell _ _ _).trans (KeepsOthers.drew _)).from _, HW2.out, by rw [HPU.out]; exact (HA.out.put (put t x)).drew, (HB.out.trans (But.set _ _ _)).drew⟩
  case done =>
    rintro D W hD ⟨_, hA, hB⟩ hK
    gi_wp2
    refine ⟨by simp, .inl ⟨_, _, rfl, run_takeDeferred hK, ?_⟩⟩
    refine ⟨_, results_none rfl _ _ _, rfl, ?_, ?_⟩
    · rw [feed_passAll]
      exact hA.grown (grownBy_putObj' W D _) (fun e => by injection e with e; omega)
    · exact ((below_but hB0 b).trans hB).grown (grownBy_putObj' W D _) (fun r e => by injection e with e; omega)
end Go.Proofs.Ytmpiobpgjlceaaa
