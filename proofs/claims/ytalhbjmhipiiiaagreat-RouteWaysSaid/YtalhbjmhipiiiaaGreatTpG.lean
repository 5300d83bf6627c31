/- Maps: what may be wrong with links together, in order; a list's copy; a map is made. -/
import Derived.Test.YtalhbjmhipiiiaaGreatTpF
import Derived.WalkSpells
namespace Go.Proofs.YtalhbjmhipiiiaaGreat.Tp
set_option linter.unusedVariables false
open Go.RowKit Go.Maps

def faultE (n : Int) (L : List Lk) : Nat → Int
  | 0 => if (nodesB n && !(L.any (wrongP n))) = true then 0 else 2
  | 1 => if L.length ≤ 48 then 0 else 3
  | 2 => if (endsL L).Nodup then 0 else 190
  | _ => if L.any (noBack (endsL L)) = true then 191 else 0
def errN (n : Int) (L : List Lk) : Int := if faultE n L 0 ≠ 0 then faultE n L 0 else if faultE n L 1 ≠ 0 then faultE n L 1 else if faultE n L 2 ≠ 0 then faultE n L 2 else faultE n L 3
theorem wrong_tells (n : Int) (q : Nat) (L : List Lk) (w : World) (hq : q < w.heap.size) (hc : w.cell? ⟨q, 0, none⟩ = some (.int .i64 n)) : Tells 59 q (wrongP n) L w := fun x _ W hW =>
  wrong1_any q n (fr x) (tw x) (rt x) (sh x) (fa x) (mo x) (ro x) (fi x) W (Nat.lt_of_lt_of_le hq hW.size) ((hW.cell (p := ⟨q, 0, none⟩) hq).trans hc)
theorem oneWay_tells (q b : Nat) (E : List (Int × Int)) (hE : ∀ p ∈ E, I64P p) (L : List Lk) (hL : WideL L) (w : World) (hq : q < w.heap.size) (hc : w.cell? ⟨q, 0, none⟩ = some (.map (some b))) (hb : NumsAt w b E) : Tells 64 q (noBack E) L w := fun x hx W hW =>
  oneWay1_any q b E hE (fr x) (tw x) (rt x) (sh x) (fa x) (mo x) (ro x) (fi x) (hL x hx).1 (hL x hx).2 W (Nat.lt_of_lt_of_le hq hW.size) ((hW.cell (p := ⟨q, 0, none⟩) hq).trans hc) (hb.below hW)
set_option maxHeartbeats 2000000 in
theorem wrongOne_any (n : Int) (A : Option Addr) (L : List Lk) (c : Nat) (hL : L.length ≤ 1000000) (w : World) (hA : Lie linkV 8 w w.heap.size A L) :
    Calls Tryz.prog 40 #[.int .i64 n, .slice A L.length c] w fun e w' => e = .returned (.int .i64 (faultE n L 0)) ∧ Below w.heap.size w w' := by
  have hmf : ∀ (fn : Fn) (first cap : Array Value) (w : World), (Instr.makeFunc fn first cap).run Tryz.prog w = .ok (.func fn first cap) w := fun _ _ _ _ => rfl
  have cn := hidd (fun W => isNodes_any n W)
  have hb1 : Below w.heap.size w (w.alloc (.cells #[.int .i64 n] 3)) := by (repeat' (first | (with_reducible exact Below.refl _ _) | (with_reducible assumption) | (with_reducible apply Below.setCell) | (with_reducible apply Below.alloc) | (with_reducible apply Below.drew) | (with_reducible apply below_drewN) | (with_reducible refine Below.trans ?_ (Below.mono (by assumption) ?_)) | omega | (simp; done) | (simp; omega)))
  have cc := hidd (con_any 59 w.heap.size enters_wrong (wrongP n) A L c hL (w.alloc (.cells #[.int .i64 n] 3)) (hA.below hb1) (wrong_tells n w.heap.size L _ (by simp) (by simp [go_sem])))
  have cu := hidd (fun b W => unless_any b 2 W)
  unfold faultE
  generalize nodesB n = B at *
  generalize L.any (wrongP n) = M at *
  clear hA hb1
  cases B
  · go_enter Tryz.func40, Tryz.ntmps40
    go_wp2_with fail
    refine (cn.out _).mono ?_
    rintro e w1 ⟨rfl, rfl⟩
    go_wp2_with fail
    refine (cu.out _ _).mono ?_
    rintro e w2 ⟨rfl, rfl⟩
    go_wp2_with fail
    go_ret
    exact ⟨by first | rfl | simp, by (repeat' (first | (with_reducible exact Below.refl _ _) | (with_reducible assumption) | (with_reducible apply Below.setCell) | (with_reducible apply Below.alloc) | (with_reducible apply Below.drew) | (with_reducible apply below_drewN) | (with_reducible refine Below.trans ?_ (Below.mono (by assumption) ?_)) | omega | (simp; done) | (simp; omega)))⟩
  · cases M
    all_goals
      go_enter Tryz.func40, Tryz.ntmps40
      go_wp2_with fail
      refine (cn.out _).mono ?_
      rintro e w1 ⟨rfl, rfl⟩
      go_wp2_with fail
      refine cc.out.mono ?_
      rintro e w2 ⟨rfl, hb2⟩
      go_wp2_with fail
      refine (cu.out _ _).mono ?_
      rintro e w3 ⟨rfl, rfl⟩
      go_wp2_with fail
      go_ret
      exact ⟨by first | rfl | simp, by (repeat' (first | (with_reducible exact Below.refl _ _) | (with_reducible assumption) | (with_reducible apply Below.setCell) | (with_reducible apply Below.alloc) | (with_reducible apply Below.drew) | (with_reducible apply below_drewN) | (with_reducible refine Below.trans ?_ (Below.mono (by assumption) ?_)) | omega | (simp; done) | (simp; omega)))⟩
theorem tooMany_any (n : Int) (A : Option Addr) (L : List Lk) (c : Nat) (hL : L.length ≤ 1000000) (w : World) :
    Calls Tryz.prog 41 #[.int .i64 n, .slice A L.length c] w fun e w' => e = .returned (.int .i64 (faultE n L 1)) ∧ Below w.heap.size w w' := by
  have cu := hidd (fun b W => unless_any b 3 W)
  unfold faultE
  by_cases h : L.length ≤ 48
  · rw [if_pos h]
    have h' : (L.length : Int) ≤ 48 := by omega
    go_enter Tryz.func41, Tryz.ntmps41
    go_wp2_with fail
    refine (cu.out _ _).mono ?_
    rintro e w2 ⟨rfl, rfl⟩
    go_wp2_with fail
    go_ret
    exact ⟨by first | rfl | simp [h'], by (repeat' (first | (with_reducible exact Below.refl _ _) | (with_reducible assumption) | (with_reducible apply Below.setCell) | (with_reducible apply Below.alloc) | (with_reducible apply Below.drew) | (with_reducible apply below_drewN) | (with_reducible refine Below.trans ?_ (Below.mono (by assumption) ?_)) | omega | (simp; done) | (simp; omega)))⟩
  · rw [if_neg h]
    have h' : ¬ (L.length : Int) ≤ 48 := by omega
    go_enter Tryz.func41, Tryz.ntmps41
    go_wp2_with fail
    refine (cu.out _ _).mono ?_
    rintro e w2 ⟨rfl, rfl⟩
    go_wp2_with fail
    go_ret
    exact ⟨by first | rfl | simp [h'], by (repeat' (first | (with_reducible exact Below.refl _ _) | (with_reducible assumption) | (with_reducible apply Below.setCell) | (with_reducible apply Below.alloc) | (with_reducible apply Below.drew) | (with_reducible apply below_drewN) | (with_reducible refine Below.trans ?_ (Below.mono (by assumption) ?_)) | omega | (simp; done) | (simp; omega)))⟩
/-- how many keys. -/
theorem wpList_len_nums {P : Program} {ops : Array Oper} {rest : List Oper} {o : Oper} {a : Act} {Q : Exit → Act → World → Prop} (w : World) (hg : o.guard = none) (m : Operand) (t : TypeId) (hop : o.op = Op.call { callee := Callee.builtin Builtin.len, args := #[m], argTypes := #[t] })
    (b n : Nat) (hm : a.eval m = .map (some b)) (hlen : ∀ ty, (Builtin.len_ #[t] ty #[.map (some b)]).run P w = .ok (.int .i64 (n : Int)) w)
    (hK : wpList P ops Q rest (a.put o.dst (.int .i64 (n : Int))) w) :
    wpList P ops Q (o :: rest) a w := by
  refine wpList_plain hg fun K' hK' => ?_
  unfold Oper.wp
  simp [execOp, hop, resolve, invoke, builtin, hm, hlen o.type, Result.andThen]
  exact hK' _ _ hK
set_option maxRecDepth 100000 in
set_option maxHeartbeats 2000000 in
theorem double_any (n : Int) (A : Option Addr) (L : List Lk) (c : Nat) (hL : L.length ≤ 1000000) (hI : WideL L) (w : World) (hA : Lie linkV 8 w w.heap.size A L) :
    Calls Tryz.prog 42 #[.int .i64 n, .slice A L.length c] w fun e w' => e = .returned (.int .i64 (faultE n L 2)) ∧ Below w.heap.size w w' := by
  have cu := hidd (fun b W => unless_any b 190 W)
  have cn := hidd (numbersOf_any A L c hL hI w hA)
  have hE := hI.ends
  have LE := hidd (fun (W : World) (b : Nat) (h : NumsAt W b (endsL L)) => h.len_ hE)
  have hnd := cntF_nodup (E := endsL L) (endsL L).length (Nat.le_refl _)
  have hlen := endsL_len L
  rw [List.take_length] at hnd
  rw [hlen] at hnd LE
  unfold faultE
  have hle := cntF_le (endsL L) L.length
  generalize cntF (endsL L) L.length = C at *
  clear hA hE hlen
  by_cases h : C = L.length
  · rw [if_pos (hnd.1 h)]
    have h' : Hid (((C : Nat) : Int) = (L.length : Int)) := hidd (by omega)
    clear hnd
    subst h
    go_enter Tryz.func42, Tryz.ntmps42
    go_wp2_with fail
    refine cn.out.mono ?_
    rintro e w1 ⟨b, rfl, hb, hb0, hB⟩
    have HL := hidd (LE.out _ _ hb)
    clear hb hb0
    go_wp2_with (first | (refine wpList_len_nums _ rfl _ 100 rfl b _ rfl HL.out ?_) | fail)
    refine (cu.out _ _).mono ?_
    rintro e w2 ⟨rfl, rfl⟩
    go_wp2_with fail
    go_ret
    exact ⟨by first | rfl | simp, by (repeat' (first | (with_reducible exact Below.refl _ _) | (with_reducible assumption) | (with_reducible apply Below.setCell) | (with_reducible apply Below.alloc) | (with_reducible apply Below.drew) | (with_reducible apply below_drewN) | (with_reducible refine Below.trans ?_ (Below.mono (by assumption) ?_)) | omega | (simp; done) | (simp; omega)))⟩
  · rw [if_neg (fun h2 => h (hnd.2 h2))]
    have h' : ¬ (((C : Nat) : Int) = (L.length : Int)) := by omega
    clear hnd
    go_enter Tryz.func42, Tryz.ntmps42
    go_wp2_with fail
    refine cn.out.mono ?_
    rintro e w1 ⟨b, rfl, hb, hb0, hB⟩
    have HL := hidd (LE.out _ _ hb)
    clear hb hb0
    go_wp2_with (first | (refine wpList_len_nums _ rfl _ 100 rfl b _ rfl HL.out ?_) | fail)
    refine (cu.out _ _).mono ?_
    rintro e w2 ⟨rfl, rfl⟩
    go_wp2_with fail
    go_ret
    exact ⟨by first | rfl | simp [h', h], by (repeat' (first | (with_reducible exact Below.refl _ _) | (with_reducible assumption) | (with_reducible apply Below.setCell) | (with_reducible apply Below.alloc) | (with_reducible apply Below.drew) | (with_reducible apply below_drewN) | (with_reducible refine Below.trans ?_ (Below.mono (by assumption) ?_)) | omega | (simp; done) | (simp; omega)))⟩
set_option maxRecDepth 100000 in
set_option maxHeartbeats 2000000 in
theorem oneWay_any (n : Int) (A : Option Addr) (L : List Lk) (c : Nat) (hL : L.length ≤ 1000000) (hI : WideL L) (w : World) (hA : Lie linkV 8 w w.heap.size A L) :
    Calls Tryz.prog 43 #[.int .i64 n, .slice A L.length c] w fun e w' => e = .returned (.int .i64 (faultE n L 3)) ∧ Below w.heap.size w w' := by
  have hmf : ∀ (fn : Fn) (first cap : Array Value) (w : World), (Instr.makeFunc fn first cap).run Tryz.prog w = .ok (.func fn first cap) w := fun _ _ _ _ => rfl
  have cu := hidd (fun b W => unless_any b 191 W)
  have cn := hidd (numbersOf_any A L c hL hI w hA)
  have HA := hidd hA
  have hE := hI.ends
  have CC := hidd (fun (q b : Nat) (W : World) (hW : Below w.heap.size w W) (hq : q < W.heap.size) (hc : W.cell? ⟨q, 0, none⟩ = some (.map (some b))) (hb : NumsAt W b (endsL L)) => con_any 64 q enters_oneWay (noBack (endsL L)) A L c hL W (HA.out.below hW) (oneWay_tells q b (endsL L) hE L hI W hq hc hb))
  unfold faultE
  generalize L.any (noBack (endsL L)) = M at *
  clear hA hE hI
  cases M
  all_goals
    go_enter Tryz.func43, Tryz.ntmps43
    go_wp2_with fail
    refine cn.out.mono ?_
    rintro e w1 ⟨b, rfl, hb, hb0, hB⟩
    have HN := hidd hb
    have HB := hidd hB
    clear hb hb0 hB
    go_wp2_with fail
    refine (CC.out _ _ _ (below_new HB.out _) (by simp) (by simp [go_sem]) (HN.out.below (below_new (Below.refl _ _) _))).mono ?_
    rintro e w2 ⟨rfl, hb2⟩
    go_wp2_with fail
    refine (cu.out _ _).mono ?_
    rintro e w3 ⟨rfl, rfl⟩
    go_wp2_with fail
    go_ret
    exact ⟨by first | rfl | simp, by have q := HB.out; have qs := q.size; (repeat' (first | (with_reducible exact Below.refl _ _) | (with_reducible assumption) | (with_reducible apply Below.setCell) | (with_reducible apply Below.alloc) | (with_reducible apply Below.drew) | (with_reducible apply below_drewN) | (with_reducible refine Below.trans ?_ (Below.mono (by assumption) ?_)) | omega | (simp; done) | (simp; omega)))⟩
end Go.Proofs.YtalhbjmhipiiiaaGreat.Tp
