/- Sums: bytes of the call's own, set; Clone, sealed, Seal. -/
import Derived.Test.YtmpiobpgjlceaaaCkF
namespace Go.Proofs.Ytmpiobpgjlceaaa
set_option linter.unusedVariables false
open Go.RowKit

theorem wp_scope_fwd {P : Program} {a : Act} {w : World} {Q : Exit → Act → World → Prop} {c rest : Code} (l : Nat) (J : Act → World → Prop) (hf : findLabel c l = some rest)
    (first : c.wp P (Exit.jump l J Q) a w) (pass : ∀ a w, J a w → rest.wp P (Exit.noGoto Q) a w) : (Code.scope c).wp P Q a w :=
  wp_scope_jumps l J (fun _ _ => 0) hf first fun a w h => wp_mono (pass a w h) fun e a w hq => by
    cases e <;> first | exact hq | exact hq.elim
theorem rowOf_by (l : List Int) : rowOf byV l = l.map (fun x => Value.int .u8 x) := by
  induction l with
  | nil => rfl
  | cons x l ih => simp only [rowOf, List.flatMap_cons, byV, List.map_cons, List.cons_append, List.nil_append] at *; rw [ih]
/-- bytes of the call's own, one set. -/
theorem OwnL.set {w : World} {base g n cap : Nat} {e : TypeId} {l : List Int} (h : OwnL byV 1 w base e (.slice (some ⟨g, 0, none⟩) n cap) l) (i : Nat) (hi : i < l.length) (x : Int) :
    OwnL byV 1 (w.setCell ⟨g, i, none⟩ (.int .u8 x)) base e (.slice (some ⟨g, 0, none⟩) n cap) (l.set i x) := by
  obtain ⟨h0, h1⟩ := h
  rcases h1 with ⟨hv, _⟩ | ⟨g', cap', cur, hv, hb, hh, hn, hm, hc, ht⟩
  · cases hv
  cases hv
  have hic : i < cur.size := by omega
  refine ⟨by rw [row_len byV_len], .inr ⟨g, cap, cur.set i (.int .u8 x) hic, by simp, hb, ?_, by simpa using hn, hm, by simpa using hc, ?_⟩⟩
  · simp [World.setCell, Array.getElem?_modify, hh, hic, Array.setIfInBounds]
  · rw [Nat.mul_one] at ht
    rw [rowOf_by] at ht ⊢
    rw [Nat.mul_one, List.length_set, Array.toList_set, List.map_set, ← ht, List.take_set]
theorem add_zero (g i : Nat) : Addr.add ⟨g, 0, none⟩ i = ⟨g, i, none⟩ := by
  unfold Addr.add
  by_cases h : i = 0 <;> simp [h]
theorem OwnL.byteAt {w : World} {base g n cap : Nat} {e : TypeId} {l : List Int} (h : OwnL byV 1 w base e (.slice (some ⟨g, 0, none⟩) n cap) l) (i : Nat) (hi : i < l.length) :
    w.cell? ⟨g, i, none⟩ = some (.int .u8 (av l i)) ∧ w.frozen? ⟨g, i, none⟩ = false := by
  constructor
  · have := World.ownsRow.cells h (g := g) rfl i (.int .u8 (av l i)) (by rw [rowOf_by]; simp [av, hi])
    rwa [add_zero] at this
  · obtain ⟨h0, h1⟩ := h
    rcases h1 with ⟨hv, _⟩ | ⟨g', cap', cur, hv, hb, hh, hn, hm, hc, ht⟩
    · cases hv
    cases hv
    simp [World.frozen?, hh]
theorem OwnL.lieAt {w : World} {base g n cap : Nat} {e : TypeId} {l : List Int} (h : OwnL byV 1 w base e (.slice (some ⟨g, 0, none⟩) n cap) l) : Lie byV 1 w w.heap.size (some ⟨g, 0, none⟩) l := by
  obtain ⟨A, c, e1, _, _, hl⟩ := OwnL.lie h byV_len
  cases e1
  exact hl
theorem OwnL.grew {w w' : World} {base g cap n : Nat} {e : TypeId} {l : List Int} (h : OwnL byV 1 w base e (.slice (some ⟨g, 0, none⟩) n cap) l) (hb : Below w.heap.size w w') : OwnL byV 1 w' base e (.slice (some ⟨g, 0, none⟩) n cap) l := h.below hb
def zeroed (l : List Int) (i : Nat) : List Int := (l.set i 0).set (i + 1) 0
def sealL (l : List Int) (i : Nat) : List Int := ((zeroed l i).set i (sumR (zeroed l i) / 256)).set (i + 1) (sumR (zeroed l i) % 256)
theorem zeroed_len (l : List Int) (i : Nat) : (zeroed l i).length = l.length := by simp [zeroed]
theorem sealL_len (l : List Int) (i : Nat) : (sealL l i).length = l.length := by simp [sealL, zeroed]
theorem set_bytes {l : List Int} (h : Bytes l) (i : Nat) {x : Int} (hx : 0 ≤ x ∧ x ≤ 255) : Bytes (l.set i x) := fun y hy => by
  rcases List.mem_or_eq_of_mem_set hy with h1 | rfl
  · exact h y h1
  · exact hx
theorem zeroed_bytes {l : List Int} (h : Bytes l) (i : Nat) : Bytes (zeroed l i) := set_bytes (set_bytes h i (by simp)) (i + 1) (by simp)
theorem sumR_w {l : List Int} (h : Bytes l) : W16 (sumR l) := by rw [← fin_sum l h]; exact fin_w (feedAll_ok st0_ok h)
theorem sealL_bytes {l : List Int} (h : Bytes l) (i : Nat) : Bytes (sealL l i) := by
  obtain ⟨h0, h1⟩ := sumR_w (zeroed_bytes h i)
  exact set_bytes (set_bytes (zeroed_bytes h i) i ⟨by omega, by omega⟩) (i + 1) ⟨by omega, by omega⟩
/-- what a call answers that makes bytes of its own. -/
def Made (l : List Int) (w : World) (e : Ending) (w' : World) : Prop := ∃ g cap, e = .returned (.slice (some ⟨g, 0, none⟩) l.length cap) ∧ OwnL byV 1 w' w.heap.size 5 (.slice (some ⟨g, 0, none⟩) l.length cap) l ∧ Below w.heap.size w w'
theorem own_form {w : World} {base : Nat} {e : TypeId} {v : Value} {n : Nat} {xs : List Value} (h : w.ownsRow base e 1 v n xs) (hn : 0 < n) : ∃ g cap, v = .slice (some ⟨g, 0, none⟩) n cap := by
  obtain ⟨m, rfl⟩ : ∃ m, n = m + 1 := ⟨n - 1, by omega⟩
  exact ownsRow_succ h
set_option maxHeartbeats 2000000 in
theorem Clone_any (A : Option Addr) (l : List Int) (c : Nat) (h0 : 0 < l.length) (hlen : l.length ≤ 1000000) (w : World) (hl : Lie byV 1 w w.heap.size A l) :
    Calls Try.prog 32 #[.slice A l.length c] w (Made l w) := by
  obtain ⟨i0, hi0, hz0, hz1, hz2⟩ := info_parts byteInfo
  obtain ⟨ad, rfl, hB, hc⟩ := hl h0
  have hnil := fun w => Lib.run_eql_slice_nil (P := Try.prog) w 23 5 (some ad) l.length c 0 0 Try.underlying23
  have hsrc : ∀ j u, (rowOf byV l)[j]? = some u → w.cell? (ad.add j) = some u := fun j u hu => by
    rw [rowOf_by] at hu
    simp only [List.getElem?_map, Option.map_eq_some_iff] at hu
    obtain ⟨x, hx, rfl⟩ := hu
    have := hc j x hx 0 _ rfl
    simpa using this
  have HS := hidd hsrc
  have hrl : (rowOf byV l).length = l.length * 1 := row_len byV_len l
  have HRL := hidd hrl
  have HON := hidd (rowOf_one (f := byV) byV_one l)
  have hlen' : l.length ≤ 140737488355328 := by omega
  clear hc hsrc hrl
  go_enter Try.func32, Try.ntmps32
  go_wp2_with (at_builtin; refine wpList_append_some (by rfl) (.tmp 5) (.tmp 6) _ (by rfl) w.heap.size 5 i0 _ 1 1 Try.underlying23 hi0 hz0 hz1 hz2 rfl (by omega) (.slice (some ⟨w.heap.size, 0, none⟩) 0 0) 0 [] (by rfl) ⟨rfl, .inr ⟨w.heap.size, 0, #[], rfl, Nat.le_refl _, heap_alloc_new _ _, by omega, by simp [maxLen], rfl, rfl⟩⟩ (some ad) l.length c (rowOf byV l) (by rfl) HRL.out (fun _ => ⟨_, rfl, fun j u hu => (World.cell?_of_block (Below.heap_alloc _ _ _ (by rw [block_of_add]; exact hB))).trans (HS.out j u hu)⟩) HON.out (by simp only [maxLen]; omega) (by omega) (by simp) ?_; intro v1 wa hown1 hgrow1 hat1)
  have hown2 : OwnL byV 1 wa w.heap.size 5 v1 l := by simpa [OwnL] using hown1
  obtain ⟨g, cap, rfl⟩ := own_form hown2 h0
  go_ret
  exact ⟨g, cap, rfl, hown2, (below_new (Below.refl w.heap.size w) _).grown hgrow1 (by simp) (fun k e => by simp [Value.ownBlock] at e; omega)⟩
set_option maxHeartbeats 2000000 in
theorem sealed_any (A : Option Addr) (l : List Int) (c : Nat) (i : Nat) (hi : i + 2 ≤ l.length) (hlen : l.length ≤ 1000000) (hby : Bytes l) (w : World) (hl : Lie byV 1 w w.heap.size A l) :
    Calls Try.prog 30 #[.slice A l.length c, .int .i64 i] w (Made (sealL l i) w) := by
  have cc := hidd (fun W h => Clone_any A l c (by omega) hlen W h)
  have cs := hidd (fun b g cap W h1 h2 h3 => sum1_any b (some ⟨g, 0, none⟩) (zeroed l i) cap (by rw [zeroed_len]; exact hlen) (zeroed_bytes hby i) W h1 h2 h3)
  obtain ⟨s0, s1⟩ := sumR_w (zeroed_bytes hby i)
  have hse : sealL l i = ((zeroed l i).set i (sumR (zeroed l i) / 256)).set (i + 1) (sumR (zeroed l i) % 256) := rfl
  have HSE := hidd hse
  rw [zeroed_len] at cs
  generalize sealL l i = L at *
  have HZ := hidd (show zeroed l i = (l.set i 0).set (i + 1) 0 from rfl)
  have HZL := hidd (zeroed_len l i)
  generalize zeroed l i = Z at *
  generalize sumR Z = r at *
  have HL := hidd hl
  have hi1 : (i : Int) < (l.length : Int) := by omega
  have hi2 : (i : Int) + 1 < (l.length : Int) := by omega
  have w1 : IntKind.i64.wrap ((i : Int) + 1) = (i : Int) + 1 := IntWalk.i64_in _ (by omega)
  have hr1 : IntKind.u8.wrap (r / 256) = r / 256 := by rw [IntKind.wrap_u8]; omega
  have hr2 : IntKind.u8.wrap r = r % 256 := by rw [IntKind.wrap_u8]
  clear hl hby hse
  go_enter Try.func30, Try.ntmps30
  go_wp2_with fail
  refine (cc.out _ HL.out).mono ?_
  rintro e W1 ⟨g, cap, rfl, hO, hB⟩
  have HO := hidd hO
  have HB := hidd hB
  obtain ⟨c0, f0⟩ := hO.byteAt i (by omega)
  obtain ⟨c1, f1⟩ := hO.byteAt (i + 1) (by omega)
  have hgW := (hO.lt g rfl).2
  have hgw := (hO.lt g rfl).1
  clear hO hB
  go_wp2_with fail
  obtain ⟨W2, hW2⟩ : ∃ W2 : World, (W1.setCell ⟨g, i, none⟩ (.int .u8 0)).setCell ⟨g, i + 1, none⟩ (.int .u8 0) = W2 := ⟨_, rfl⟩
  have hO2 : OwnL byV 1 W2 w.heap.size 5 (.slice (some ⟨g, 0, none⟩) l.length cap) Z := by rw [← hW2, HZ.out]; exact (HO.out.set i (by omega) 0).set (i + 1) (by simp; omega) 0
  have hB2 : Below w.heap.size w W2 := by rw [← hW2]; exact (HB.out.setCell (p := ⟨g, i, none⟩) hgw _).setCell (p := ⟨g, i + 1, none⟩) hgw _
  have hz2 : W2.heap.size = W1.heap.size := by rw [← hW2]; simp [World.setCell]
  rw [hW2]
  rw [← hz2] at hgW ⊢
  clear hW2 hz2 c0 c1 f0 f1 HO HB
  have HO2 := hidd hO2
  have HB2 := hidd hB2
  clear hO2 hB2
  refine (cs.out _ g cap _ (by simp [go_sem]) (by simp) ((HO2.out.lieAt.keep (below_new (Below.refl _ _) _)).q (fun k hk => by simp; omega))).mono ?_
  rintro e W3 ⟨rfl, hb3⟩
  have hO3 := (HO2.out.alloc (.cells #[.slice (some ⟨g, 0, none⟩) l.length cap] 23)).below hb3
  have HB3 := hidd (below_step (below_new HB2.out _) hb3)
  have hg3 : g < W3.heap.size := by have := hb3.size; simp at this; omega
  have HO3 := hidd hO3
  obtain ⟨c0, f0⟩ := hO3.byteAt i (by rw [HZL.out]; omega)
  obtain ⟨c1, f1⟩ := hO3.byteAt (i + 1) (by rw [HZL.out]; omega)
  clear hO3 hb3 HO2 HB2
  go_wp2_with fail
  go_ret
  refine ⟨g, cap, ?_, ?_, ?_⟩
  · rw [HSE.out]; simp [HZL.out]
  · rw [HSE.out]
    have := (HO3.out.set i (by rw [HZL.out]; omega) (r / 256)).set (i + 1) (by simp [HZL.out]; omega) (r % 256)
    simpa [HZL.out] using this
  · exact (HB3.out.setCell (p := ⟨g, i, none⟩) hgw _).setCell (p := ⟨g, i + 1, none⟩) hgw _
end Go.Proofs.Ytmpiobpgjlceaaa
