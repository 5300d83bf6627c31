/- Routes: the links of a way, found. -/
import Derived.Test.YtalhbjmhipiiiaaGreatRtK
namespace Go.Proofs.YtalhbjmhipiiiaaGreat.Tp
set_option linter.unusedVariables false
open Go.RowKit Go.Maps

/-- no routes: nil, or zero ones. -/
def NoneR (W : World) (v : Value) : Prop := v = .pointer none ∨ ∃ z, v = .pointer (some ⟨z, 0, none⟩) ∧ z < W.heap.size ∧ W.cell? ⟨z, 3, none⟩ = some (.pointer none)
theorem NoneR.below {w w' : World} {v : Value} (h : NoneR w v) (hb : Below w.heap.size w w') : NoneR w' v := by
  rcases h with rfl | ⟨z, rfl, hz, hc⟩
  · exact .inl rfl
  · exact .inr ⟨z, rfl, Nat.lt_of_lt_of_le hz hb.size, (hb.cell (p := ⟨z, 3, none⟩) hz).trans hc⟩
theorem isNoneR_no (v : Value) (w : World) (h : NoneR w v) : Calls Tryz.prog 38 #[v] w fun e w' => e = .returned (.bool true) ∧ w = w' := by
  rcases h with rfl | ⟨z, rfl, hz, hc⟩
  · go_enter Tryz.func38, Tryz.ntmps38
    go_wp2
    go_ret
    exact ⟨rfl, rfl⟩
  · go_enter Tryz.func38, Tryz.ntmps38
    go_wp2
    go_ret
    exact ⟨rfl, rfl⟩
theorem isNoneR_yes (r bw : Nat) (w : World) (h : w.cell? ⟨r, 3, none⟩ = some (.pointer (some ⟨bw, 0, none⟩))) : Calls Tryz.prog 38 #[.pointer (some ⟨r, 0, none⟩)] w fun e w' => e = .returned (.bool false) ∧ w = w' := by
  go_enter Tryz.func38, Tryz.ntmps38
  go_wp2
  go_ret
  exact ⟨rfl, rfl⟩
def hasB (n x : Int) : Bool := decide (0 ≤ x) && decide (x < n)
theorem hasB_yes {n x : Int} (h : 0 ≤ x ∧ x < n) : hasB n x = true := by simp [hasB, h.1, h.2]
theorem hasB_iff {n x : Int} : hasB n x = true ↔ 0 ≤ x ∧ x < n := by simp [hasB]
theorem hasW_any (bw m : Nat) (n : Int) (hn : 1 ≤ n) (L : List Lk) (x : Int) (w : World) (hc : w.cell? ⟨bw, 0, none⟩ = some (.pointer (some ⟨m, 0, none⟩))) (h : MapAt w m n L) :
    Calls Tryz.prog 46 #[.pointer (some ⟨bw, 0, none⟩), .int .i64 x] w fun e w' => e = .returned (.bool (hasB n x)) ∧ w = w' := by
  have CN := hidd (Nodes_yes m n hn L w h)
  clear h
  unfold hasB
  by_cases h0 : 0 ≤ x
  · have hd : decide (0 ≤ x) = true := decide_eq_true h0
    rw [hd]
    go_enter Tryz.func46, Tryz.ntmps46
    go_wp2_with fail
    refine CN.out.mono ?_
    rintro e w1 ⟨rfl, rfl⟩
    go_wp2_with fail
    go_ret
    exact ⟨rfl, rfl⟩
  · have hd : decide (0 ≤ x) = false := decide_eq_false h0
    rw [hd]
    go_enter Tryz.func46, Tryz.ntmps46
    go_wp2_with fail
    go_ret
    exact ⟨rfl, rfl⟩
theorem find_no (v : Value) (x t : Int) (w : World) (h : NoneR w v) : Calls Tryz.prog 28 #[v, .int .i64 x, .int .i64 t] w fun e w' => e = .returned (.tuple #[.slice none 0 0, .int .i64 1]) ∧ w = w' := by
  have c := hidd (isNoneR_no v w h)
  clear h
  go_enter Tryz.func28, Tryz.ntmps28
  go_wp2_with fail
  refine c.out.mono ?_
  rintro e w1 ⟨rfl, rfl⟩
  go_wp2_with fail
  exact ⟨rfl, .tuple #[.slice none 0 0, .int .i64 1], by simp [results, Tryz.results28, go_sem], rfl, rfl⟩
theorem find_out (B r bw m : Nat) (n : Int) (L : List Lk) (hV : Valid n L) (done : Bool) (x t : Int) (hxt : (hasB n x && hasB n t) = false) (w : World) (h : RoutesAt w B r bw m n L done) :
    Calls Tryz.prog 28 #[.pointer (some ⟨r, 0, none⟩), .int .i64 x, .int .i64 t] w fun e w' => e = .returned (.tuple #[.slice none 0 0, .int .i64 4]) ∧ w = w' := by
  have c := hidd (isNoneR_yes r bw w h.c3)
  have ch := hidd (fun x => hasW_any bw m n hV.lo L x w h.ways.map h.ways.mapAt)
  have c3 := h.c3
  clear h hV
  by_cases hx : hasB n x = true
  · have ht : hasB n t = false := by rw [hx] at hxt; simpa using hxt
    have cx := ch.out x
    have ct := ch.out t
    rw [hx] at cx
    rw [ht] at ct
    have CX := hidd cx
    have CT := hidd ct
    clear cx ct hx ht hxt
    go_enter Tryz.func28, Tryz.ntmps28
    go_wp2_with fail
    refine c.out.mono ?_
    rintro e w1 ⟨rfl, rfl⟩
    go_wp2_with fail
    refine CX.out.mono ?_
    rintro e w1 ⟨rfl, rfl⟩
    go_wp2_with fail
    refine CT.out.mono ?_
    rintro e w1 ⟨rfl, rfl⟩
    go_wp2_with fail
    exact ⟨rfl, .tuple #[.slice none 0 0, .int .i64 4], by simp [results, Tryz.results28, go_sem], rfl, rfl⟩
  · have hx : hasB n x = false := by simpa using hx
    have cx := ch.out x
    rw [hx] at cx
    have CX := hidd cx
    clear cx hx hxt
    go_enter Tryz.func28, Tryz.ntmps28
    go_wp2_with fail
    refine c.out.mono ?_
    rintro e w1 ⟨rfl, rfl⟩
    go_wp2_with fail
    refine CX.out.mono ?_
    rintro e w1 ⟨rfl, rfl⟩
    go_wp2_with fail
    exact ⟨rfl, .tuple #[.slice none 0 0, .int .i64 4], by simp [results, Tryz.results28, go_sem], rfl, rfl⟩
/-- the way's links. -/
def wayOf (n : Int) (L : List Lk) (x t : Nat) : List Int := wayL n L (t : Int) (dist n L (t : Int) (x : Int)) (x : Int)
theorem wayOf_len (n : Int) (L : List Lk) (x t : Nat) : (wayOf n L x t).length = dist n L (t : Int) (x : Int) := wayL_len _ _ _ _ _
theorem lksOf_true {n : Int} {L : List Lk} {x t : Nat} (hx : (x : Int) < n) (ht : (t : Int) < n) (h : dist n L (t : Int) (x : Int) ≠ 16) (hV : Valid n L) : lksOf n L true x t = wayOf n L x t := by
  have hd := dist_le hV (x : Int) (t : Int)
  have := hV.hi
  unfold lksOf lksN
  rw [if_pos rfl, if_pos ⟨by omega, by omega, by omega⟩]
  rfl
theorem farOf_true {n : Int} {L : List Lk} {x t : Nat} (hx : (x : Int) < n) (ht : (t : Int) < n) : farOf n L true x t = dist n L (t : Int) (x : Int) := by
  unfold farOf farN
  rw [if_pos rfl, if_pos ⟨by omega, by omega⟩]
def FindEnd (B r bw m : Nat) (n : Int) (L : List Lk) (done : Bool) (x t : Nat) (w : World) (e : Ending) (w' : World) : Prop :=
  RoutesAt w' B r bw m n L true ∧ Below B w w' ∧ (done = true → Below w.heap.size w w') ∧
  ((dist n L (t : Int) (x : Int) = 16 ∧ e = .returned (.tuple #[.slice none 0 0, .int .i64 200])) ∨
   (dist n L (t : Int) (x : Int) ≠ 16 ∧ ∃ A c, e = .returned (.tuple #[.slice A (dist n L (t : Int) (x : Int)) c, .int .i64 0]) ∧ dist n L (t : Int) (x : Int) ≤ c ∧ Lie intV 1 w' w'.heap.size A (wayOf n L x t)))
set_option maxRecDepth 100000 in
set_option maxHeartbeats 4000000 in
theorem find_in (B r bw m : Nat) (n : Int) (L : List Lk) (hV : Valid n L) (done : Bool) (x t : Nat) (hx : (x : Int) < n) (ht : (t : Int) < n) (w : World) (h : RoutesAt w B r bw m n L done) (hB : B ≤ w.heap.size) :
    Calls Tryz.prog 28 #[.pointer (some ⟨r, 0, none⟩), .int .i64 (x : Int), .int .i64 (t : Int)] w (FindEnd B r bw m n L done x t w) := by
  have hn2 := hV.hi
  have hmf : ∀ (fn : Fn) (first cap : Array Value) (w : World), (Instr.makeFunc fn first cap).run Tryz.prog w = .ok (.func fn first cap) w := fun _ _ _ _ => rfl
  have c := hidd (isNoneR_yes r bw w h.c3)
  have cx := hasW_any bw m n hV.lo L (x : Int) w h.ways.map h.ways.mapAt
  have ct := hasW_any bw m n hV.lo L (t : Int) w h.ways.map h.ways.mapAt
  rw [hasB_yes ⟨by omega, hx⟩] at cx
  rw [hasB_yes ⟨by omega, ht⟩] at ct
  have CX := hidd cx
  have CT := hidd ct
  have CO := hidd (onceR_any B r bw m n L hV done w.drew (h.below (Below.drew (Below.refl _ _))))
  have c3 := h.c3
  have HC3 := hidd (fun Y (d : Bool) (h : RoutesAt Y B r bw m n L d) => h.c3)
  have HV := hidd hV
  have HH := hidd h
  obtain ⟨PO, hPO⟩ : ∃ PO : Ending → World → Prop, FindEnd B r bw m n L done x t w = PO := ⟨_, rfl⟩
  rw [hPO]
  have HPO := hidd hPO
  clear h cx ct hPO hV
  go_enter Tryz.func28, Tryz.ntmps28
  go_wp2_with fail
  refine c.out.mono ?_
  rintro e w1 ⟨rfl, rfl⟩
  go_wp2_with fail
  refine CX.out.mono ?_
  rintro e w1 ⟨rfl, rfl⟩
  go_wp2_with fail
  refine CT.out.mono ?_
  rintro e w1 ⟨rfl, rfl⟩
  go_wp2_with fail
  go_region_held3 (fun Y => Y.cell? ⟨r, 3, none⟩ = some (.pointer (some ⟨bw, 0, none⟩)))
    ((first | exact HC3.out _ _ hR1 | go_keep))
    ((go_at_call 47; refine CO.out.mono ?_; rintro E1 v1 ⟨rfl, hR1, hB1, hD1⟩))
  have hA1 := hR1.ways
  have hfc := hA1.far x t (by omega) (by omega)
  rw [farOf_true hx ht] at hfc
  have c31 := hR1.c3
  have hdl := dist_le HV.out (x : Int) (t : Int)
  have hx0 : (0 : Int) ≤ (x : Int) := by omega
  have hx16 : (x : Int) < 16 := by omega
  have ht0 : (0 : Int) ≤ (t : Int) := by omega
  have ht16 : (t : Int) < 16 := by omega
  have HB1 : Hid (Below B w v1) := hidd ((Below.drew (Below.refl B w)).trans hB1)
  have HDN : Hid (done = true → Below w.heap.size w v1) := hidd (fun h => by rw [hD1 h]; exact Below.drew (Below.refl _ _))
  have HR1 := hidd hR1
  obtain ⟨d, hd⟩ : ∃ d, dist n L (t : Int) (x : Int) = d := ⟨_, rfl⟩
  rw [hd] at hfc hdl
  have HDD := hidd hd
  by_cases hd16 : d = 16
  · subst hd16
    clear hR1 hA1 hB1 hD1 hd
    go_wp2_with fail
    show PO (.returned (.tuple #[.slice none 0 0, .int .i64 200])) v1
    rw [← HPO.out]
    exact ⟨HR1.out, HB1.out, HDN.out, .inl ⟨HDD.out, rfl⟩⟩
  · have hdb : ((d : Int) == 16) = false := beq_eq_false_iff_ne.2 (by omega)
    obtain ⟨A, k, hl1, hl2, hl3, hl4, hl5⟩ := hA1.links x t (by omega) (by omega)
    rw [lksOf_true hx ht (by omega) HV.out] at hl1 hl2 hl4
    rw [wayOf_len, hd] at hl1 hl2
    have HL4 := hidd hl4
    have HL2 := hidd hl2
    clear hR1 hA1 hB1 hD1 hd hl4 hl5 hl2 hl3
    go_wp2_with fail
    show PO (.returned (.tuple #[.slice A d k, .int .i64 0])) v1
    rw [← HPO.out]
    exact ⟨HR1.out, HB1.out, HDN.out, .inr ⟨by rw [HDD.out]; exact hd16, A, k, by rw [HDD.out], by rw [HDD.out]; exact HL2.out, HL4.out⟩⟩
end Go.Proofs.YtalhbjmhipiiiaaGreat.Tp
