/- Heaps: HeapTurns' walk. -/
import Derived.Test.YtnjkfpjccedkjaaHpM
namespace Go.Proofs.Ytnjkfpjccedkjaa.Hp
set_option linter.unusedVariables false
open Go.RowKit Go.Maps Go.Sort Go.Proofs.Ytnjkfpjccedkjaa.Tp

def ratV (x : Int × Int) : List Value := [.int .i64 x.1, .int .i64 x.2]
def Wd (x : Int × Int) : Prop := -9223372036854775808 ≤ x.1 ∧ x.1 ≤ 9223372036854775807 ∧ -9223372036854775808 ≤ x.2 ∧ x.2 ≤ 9223372036854775807
def rA (L : List (Int × Int)) (i : Nat) : Int × Int := L.getD i (0, 0)
theorem rA_at {L : List (Int × Int)} {i : Nat} (h : i < L.length) : rA L i = L[i] := by simp [rA, h]
theorem Lie.rat {w : World} {B : Nat} {A : Option Addr} {l : List (Int × Int)} (h : Lie ratV 2 w B A l) (i : Nat) (hi : i < l.length) :
    ∃ ad, A = some ad ∧ (ad.add (i * 2)).block < B ∧ w.cell? (ad.add (i * 2)) = some (.int .i64 (rA l i).1) ∧ w.cell? ⟨(ad.add (i * 2)).block, (ad.add (i * 2)).off + 1, none⟩ = some (.int .i64 (rA l i).2) := by
  obtain ⟨ad, e, hB, hc⟩ := h (by omega)
  have hx : l[i]? = some l[i] := List.getElem?_eq_getElem hi
  rw [rA_at hi]
  have h0 := hc i _ hx 0 _ rfl
  have h1 := hc i _ hx 1 _ rfl
  rw [← add_of_add] at h1
  exact ⟨ad, e, by rw [block_of_add]; exact hB, h0, h1⟩
/-- items by number, with these keys. -/
def mkI (f : Nat → Int × Int) (j : Nat) : It := ((j : Int), (f j).1, (f j).2, (j : Int) + 1)
def mk (n : Nat) (f : Nat → Int × Int) : List It := (List.range n).map (mkI f)
theorem mk_len (n : Nat) (f : Nat → Int × Int) : (mk n f).length = n := by simp [mk]
theorem mem_mk {n : Nat} {f : Nat → Int × Int} {x : It} : x ∈ mk n f ↔ ∃ j, j < n ∧ mkI f j = x := by simp [mk]
theorem mk_snoc (n : Nat) (f : Nat → Int × Int) (k : Int × Int) : mk n f ++ [((n : Int), k.1, k.2, (n : Int) + 1)] = mk (n + 1) (fun j => if j = n then k else f j) := by
  unfold mk
  rw [List.range_succ, List.map_append]
  congr 1
  · apply List.map_congr_left
    intro j hj
    have : j ≠ n := by have := List.mem_range.1 hj; omega
    simp [mkI, this]
  · simp [mkI]
theorem gI_mk {n : Nat} {f : Nat → Int × Int} {j : Nat} (h : j < n) : gI (mk n f) j = mkI f j := by
  rw [gI_at (by rw [mk_len]; exact h)]; simp [mk]
theorem mk_set (n : Nat) (f : Nat → Int × Int) {i : Nat} (hi : i < n) (k : Int × Int) : ((mk n f).erase (mkI f i) ++ [keyed (mkI f i) k.1 k.2]).Perm (mk n (fun j => if j = i then k else f j)) := by
  have p := set_erase (List.Perm.refl (mk n f)) (n := i) (by rw [mk_len]; exact hi) (keyed (mkI f i) k.1 k.2)
  rw [gI_mk hi] at p
  have e : (mk n f).set i (keyed (mkI f i) k.1 k.2) = mk n (fun j => if j = i then k else f j) := by
    apply List.ext_getElem?
    intro j
    by_cases hj : j < n
    · by_cases e : i = j
      · subst e
        rw [List.getElem?_set_self (by rw [mk_len]; exact hi)]
        simp [mk, hj, mkI, keyed, iD, tN]
      · rw [List.getElem?_set_ne e]
        have : ¬ j = i := fun q => e q.symm
        simp [mk, hj, mkI, this]
    · rw [List.getElem?_eq_none (by simp [mk_len]; omega), List.getElem?_eq_none (by simp [mk_len]; omega)]
  rw [e] at p
  exact p.symm
/-- those from i on, all of one key. -/
def rest (k : Int × Int) (i m : Nat) : List It := (List.range' i m).map (mkI (fun _ => k))
theorem rest_cons (k : Int × Int) (i m : Nat) : rest k i (m + 1) = mkI (fun _ => k) i :: rest k (i + 1) m := by
  simp [rest, List.range'_succ]
theorem rest_all {n : Nat} {f : Nat → Int × Int} {k : Int × Int} (h : ∀ j, j < n → f j = k) : mk n f = rest k 0 n := by
  unfold mk rest
  rw [List.range_eq_range']
  apply List.map_congr_left
  intro j hj
  have : j < n := by simpa using hj
  simp [mkI, h j this]
theorem rest_min (k : Int × Int) (i m : Nat) : MinOf (rest k i (m + 1)) (mkI (fun _ => k) i) := by
  refine ⟨by rw [rest_cons]; simp, fun y hy => ?_⟩
  obtain ⟨j, hj, rfl⟩ := List.mem_map.1 hy
  have : i ≤ j := by simp at hj; omega
  rw [le_iff]
  exact .inr ⟨rfl, by simp [mkI, tN]; omega⟩
theorem rest_erase (k : Int × Int) (i m : Nat) : (rest k i (m + 1)).erase (mkI (fun _ => k) i) = rest k (i + 1) m := by
  rw [rest_cons, List.erase_cons_head]
theorem no_id {n : Nat} {f : Nat → Int × Int} {id : Int} (h : id = (n : Int)) : ¬ ∃ x ∈ mk n f, iD x = id := by
  rintro ⟨x, hx, e⟩
  obtain ⟨j, hj, rfl⟩ := mem_mk.1 hx
  simp [mkI, iD] at e
  omega
set_option maxRecDepth 100000 in
set_option maxHeartbeats 8000000 in
theorem turns_walk (A : Option Addr) (L : List (Int × Int)) (c : Nat) (ln ld : Int) (hWd : ∀ x ∈ L, Wd x) (hl : Wd (ln, ld)) (hlc : L.length ≤ c) (hcm : c ≤ maxLen) (w : World) (hA : Lie ratV 2 w w.heap.size A L) :
    Calls Try.prog 7 #[.slice A L.length c, .agg #[.int .i64 ln, .int .i64 ld]] w fun e w' => e = .returned (.bool true) ∧ Below w.heap.size w w' := by
  have cK := hidd (fun W => known11_any W)
  have cN := hidd (fun W => newR W)
  obtain ⟨l0, l1, l2, l3⟩ := hl
  by_cases h40 : 40 < L.length
  · have z : (40 : Int) < (L.length : Int) := by omega
    generalize L.length = N at *
    clear hWd hA
    go_enter Try.func7, Try.ntmps7
    go_wp2_with fail
    refine (cK.out _).mono ?_
    rintro e w1 ⟨rfl, hb⟩
    go_wp2_with fail
    go_ret
    exact ⟨rfl, by (repeat' (first | (with_reducible exact Below.refl _ _) | (with_reducible assumption) | (with_reducible apply Below.setCell) | (with_reducible apply Below.alloc) | (with_reducible apply Below.drew) | (with_reducible apply below_drewN) | (with_reducible refine Below.trans ?_ (Below.mono (by assumption) ?_)) | omega | (simp; done) | (simp; omega)))⟩
  have z40 : ¬ (40 : Int) < (L.length : Int) := by omega
  have HWd := hidd hWd
  have HA := hidd hA
  clear hA hWd
  go_enter Try.func7, Try.ntmps7
  go_wp2_with fail
  obtain ⟨W1, hW1⟩ : ∃ W1, w.alloc (.cells #[.int .i64 ln, .int .i64 ld] 32) = W1 := ⟨_, rfl⟩
  rw [hW1]
  have BW : Hid (Below w.heap.size w W1) := hidd (hW1 ▸ below_new (Below.refl _ _) _)
  have hsz : w.heap.size < W1.heap.size := by rw [← hW1]; simp
  have x0 : Hid (W1.cell? ⟨w.heap.size, 0, none⟩ = some (.int .i64 ln)) := hidd (by rw [← hW1]; simp [go_sem])
  have x1 : Hid (W1.cell? ⟨w.heap.size, 1, none⟩ = some (.int .i64 ld)) := hidd (by rw [← hW1]; simp [go_sem])
  clear hW1
  refine (cN.out _).mono ?_
  rintro e w0 ⟨rfl, ⟨R0, hR0, hn0⟩, hb0⟩
  have B0 := hidd hb0
  have HR0 := hidd hR0
  have N0 := hidd hn0
  clear hb0 hR0 hn0
  generalize W1.heap.size + 1 = h at *
  go_wp2_with fail
  go_loopg [6, 7] L.length (fun gk s6 s7 wr => ∃ (i n : Nat) (f : Nat → Int × Int) (R : Nat → Prop), i + gk = L.length ∧ n ≤ i ∧ s6 = .int .i64 (n : Int) ∧ s7 = .int .i64 (i : Int) ∧ (∀ j, j < n → Wd (f j)) ∧ HR R wr h (mk n f) (n : Int) ∧ (∀ k, R k → W1.heap.size ≤ k) ∧ Below W1.heap.size W1 wr)
  case atStart => exact ⟨0, 0, fun _ => (0, 0), R0, by omega, by omega, rfl, rfl, fun j hj => by omega, HR0.out, N0.out, B0.out⟩
  case round =>
    obtain ⟨i, n, f, R, hg, hni, rfl, rfl, hf, hR, hN, hB⟩ := hrel
    have HF := hidd hf
    have HR_ := hidd hR
    have HN := hidd hN
    have HB := hidd hB
    clear hf hR hN hB
    by_cases hi : i < L.length
    · have z1 : (i : Int) < (L.length : Int) := by omega
      have z2 : (0 : Int) ≤ (i : Int) := by omega
      obtain ⟨ad, rfl, ha, c0, c1⟩ := Lie.rat ((HA.out.below BW.out).keep HB.out) i hi
      obtain ⟨w0', w1', w2', w3'⟩ := HWd.out _ (by rw [rA_at hi]; exact List.getElem_mem hi : rA L i ∈ L)
      have hhl := HR_.out.hlt
      by_cases hr : mayB (n : Int) (rA L i).1 (rA L i).2 = true
      · have cP := hidd (putR_ok HR_.out (id := (n : Int)) w0' w1' w2' w3' hr (no_id rfl) (by rw [mk_len]; omega) (by omega) (by omega))
        rw [show mk n f ++ [((n : Int), (rA L i).1, (rA L i).2, (n : Int) + 1)] = mk (n + 1) (fun j => if j = n then rA L i else f j) from mk_snoc n f (rA L i)] at cP
        have hW := hidd (show ∀ j, j < n + 1 → Wd (if j = n then rA L i else f j) from fun j hj => by
          by_cases e : j = n
          · rw [if_pos e]; exact ⟨w0', w1', w2', w3'⟩
          · rw [if_neg e]; exact HF.out j (by omega))
        clear hr w0' w1' w2' w3'
        generalize hF : (fun j => if j = n then rA L i else f j) = F at *
        have hW2 := hidd (show ∀ j, j < n + 1 → Wd (F j) from fun j hj => by rw [← hF]; exact hW.out j hj)
        clear hF hW
        generalize (rA L i).1 = r0 at *
        generalize (rA L i).2 = r1 at *
        go_wp2_with fail
        refine cP.out.mono ?_
        rintro e w2 ⟨rfl, R2, hR2, hS2, hN2⟩
        have hsz2 := HB.out.size
        have HB2 := hidd (HB.out.trans (hS2.below hsz2 HN.out))
        have HN2 : Hid (∀ k, R2 k → W1.heap.size ≤ k) := hidd (fun k hk => by
          rcases Nat.lt_or_ge k wr.heap.size with q | q
          · exact HN.out k (hN2 k q hk)
          · omega)
        have HR2 := hidd hR2
        clear hR2 hS2 hN2
        go_wp2_with fail
        go_roundg (gk - 1)
        case measure => omega
        case rel => exact ⟨i + 1, n + 1, F, R2, by omega, by omega, by go_num, by go_num, hW2.out, HR2.out, HN2.out, HB2.out⟩
      · have cP := hidd (putR_bad HR_.out (id := (n : Int)) w0' w1' w2' w3' (by simpa using hr))
        clear hr w0' w1' w2' w3'
        generalize (rA L i).1 = r0 at *
        generalize (rA L i).2 = r1 at *
        go_wp2_with fail
        refine cP.out.mono ?_
        rintro e w2 ⟨rfl, hb2⟩
        have HB2 := hidd (HB.out.trans (hb2.mono HB.out.size))
        have HR2 := hidd (HR_.out.below hb2)
        clear hb2
        go_wp2_with fail
        go_roundg (gk - 1)
        case measure => omega
        case rel => exact ⟨i + 1, n, f, R, by omega, by omega, rfl, by go_num, HF.out, HR2.out, HN.out, HB2.out⟩
    · have z1 : ¬ (i : Int) < (L.length : Int) := by omega
      have hn40 : n ≤ 40 := by omega
      have y0 := (HB.out.cell (p := ⟨w.heap.size, 0, none⟩) hsz).trans x0.out
      have y1 := (HB.out.cell (p := ⟨w.heap.size, 1, none⟩) hsz).trans x1.out
      have hbl : w.heap.size < wr.heap.size := Nat.lt_of_lt_of_le hsz HB.out.size
      clear HA HWd
      generalize hLN : L.length = N at *
      clear hLN
      by_cases hn : n = 0
      · subst hn
        have cE := hidd (fun W (H : HR R W h (mk 0 f) ((0 : Nat) : Int)) => lenR H)
        have HL := hidd HR_
        go_wp2_with fail
        refine wp_loop_rounds 1 ?_
        rw [rounds_succ]; go_wp2_with fail
        refine wp_loop_rounds 1 ?_
        rw [rounds_succ]; go_wp2_with fail
        refine (cE.out _ HR_.out).mono ?_
        rintro e w2 ⟨rfl, rfl⟩
        have hz : ((mk 0 f).length : Int) = 0 := rfl
        go_wp2_with fail
        refine (cK.out _).mono ?_
        rintro e w2 ⟨rfl, hb2⟩
        have BZ := (BW.out.trans (HB.out.mono (Nat.le_of_lt hsz))).trans (hb2.mono (Nat.le_of_lt hbl))
        go_wp2_with fail
        go_ret
        exact ⟨rfl, BZ⟩
      · have z3 : (0 : Int) < (n : Int) := by omega
        by_cases hr : rightB ln ld = true
        · have cS := hidd (setR_ok HR_.out (x := mkI f 0) (mem_mk.2 ⟨0, by omega, rfl⟩) (n := ln) (d := ld) l0 l1 l2 l3 hr)
          have q := mk_set n f (i := 0) (by omega) (ln, ld)
          have CS : Hid (Calls Try.prog 23 #[.pointer (some ⟨h, 0, none⟩), .int .i64 0, .agg #[.int .i64 ln, .int .i64 ld]] wr fun e w' => e = .returned (.int .i64 0) ∧ ∃ R', HR R' w' h (mk n (fun j => if j = 0 then (ln, ld) else f j)) (n : Int) ∧ Sav R wr w' ∧ Nxt R R' wr) := hidd (cS.out.mono fun e w' ⟨he, R', hR', hS', hN'⟩ => ⟨he, R', hR'.perm q, hS', hN'⟩)
          clear cS q
          have hF0 := hidd (show ∀ j, j < n → j = 0 → (if j = 0 then (ln, ld) else f j) = (ln, ld) from fun j _ e => by rw [if_pos e])
          have cS2 := hidd (fun (f' : Nat → Int × Int) (R : Nat → Prop) (i : Nat) (hi : i < n) W (H : HR R W h (mk n f') (n : Int)) => (setR_ok H (x := mkI f' i) (mem_mk.2 ⟨i, hi, rfl⟩) (n := ln) (d := ld) l0 l1 l2 l3 hr).mono fun e w' ⟨he, R', hR', hS', hN'⟩ => (⟨he, R', hR'.perm (mk_set n f' hi (ln, ld)), hS', hN'⟩ : e = Ending.returned (.int .i64 0) ∧ ∃ R', HR R' w' h (mk n (fun j => if j = i then (ln, ld) else f' j)) (n : Int) ∧ Sav R W w' ∧ Nxt R R' W))
          generalize hF : (fun j => if j = 0 then (ln, ld) else f j) = F at *
          have hF1 := hidd (show ∀ j, j < n → j = 0 → F j = (ln, ld) from fun j a b => by rw [← hF]; exact hF0.out j a b)
          clear hF hF0 HF l0 l1 l2 l3 hr
          have wn : IntKind.i64.wrap ((n : Int) - 1) = ((n - 1 : Nat) : Int) := by rw [IntKind.wrap_i64]; omega
          go_wp2_with fail
          refine CS.out.mono ?_
          rintro e w2 ⟨rfl, R2, hR2, hS2, hN2⟩
          have HB2 := hidd (HB.out.trans (hS2.below HB.out.size HN.out))
          have HN2 : Hid (∀ k, R2 k → W1.heap.size ≤ k) := hidd (fun k hk => by
            rcases Nat.lt_or_ge k wr.heap.size with q | q
            · exact HN.out k (hN2 k q hk)
            · have := HB.out.size; omega)
          have HR2 := hidd hR2
          clear hR2 hS2 hN2 CS
          go_wp2_with fail
          go_loopg [8] n (fun gk s8 wr => ∃ (i : Nat) (f : Nat → Int × Int) (R : Nat → Prop), i < n ∧ i ≤ gk ∧ s8 = .int .i64 (i : Int) ∧ (∀ j, j < n → (j = 0 ∨ i < j) → f j = (ln, ld)) ∧ HR R wr h (mk n f) (n : Int) ∧ (∀ k, R k → W1.heap.size ≤ k) ∧ Below W1.heap.size W1 wr)
          case atStart => exact ⟨n - 1, F, R2, by omega, by omega, rfl, fun j a b => hF1.out j a (by omega), HR2.out, HN2.out, HB2.out⟩
          case round =>
            clear HB2 HN2 HR2 HB HN HR_ y0 y1 hbl
            obtain ⟨i, f, R, hin, hgi, rfl, hf, hR, hN, hB⟩ := hrel
            have HF := hidd hf
            have HR_ := hidd hR
            have HN := hidd hN
            have HB := hidd hB
            have y0 := (hB.cell (p := ⟨w.heap.size, 0, none⟩) hsz).trans x0.out
            have y1 := (hB.cell (p := ⟨w.heap.size, 1, none⟩) hsz).trans x1.out
            have hbl : w.heap.size < wr.heap.size := Nat.lt_of_lt_of_le hsz hB.size
            clear hf hR hN hB
            by_cases h0i : 0 < i
            · have z4 : (0 : Int) < (i : Int) := by omega
              have wi : IntKind.i64.wrap ((i : Int) - 1) = ((i - 1 : Nat) : Int) := by rw [IntKind.wrap_i64]; omega
              have CS := hidd (cS2.out f R i hin wr HR_.out)
              unfold mkI iD at CS
              go_wp2_with fail
              refine CS.out.mono ?_
              rintro e w2 ⟨rfl, R2, hR2, hS2, hN2⟩
              have HB2 := hidd (HB.out.trans (hS2.below HB.out.size HN.out))
              have HN2 : Hid (∀ k, R2 k → W1.heap.size ≤ k) := hidd (fun k hk => by
                rcases Nat.lt_or_ge k wr.heap.size with q | q
                · exact HN.out k (hN2 k q hk)
                · have := HB.out.size; omega)
              have HR2 := hidd hR2
              clear hR2 hS2 hN2 CS
              go_wp2_with fail
              go_roundg (gk - 1)
              case measure => omega
              case rel => exact ⟨i - 1, _, R2, by omega, by omega, rfl, fun j a b => by
                show (if j = i then (ln, ld) else f j) = (ln, ld)
                by_cases e : j = i
                · rw [if_pos e]
                · rw [if_neg e]; exact HF.out j a (by omega), HR2.out, HN2.out, HB2.out⟩
            · have z4 : ¬ (0 : Int) < (i : Int) := by omega
              have HR3 : Hid (HR R wr h (rest (ln, ld) 0 n) (n : Int)) := hidd (by have := HR_.out; rw [rest_all (k := (ln, ld)) (fun j hj => HF.out j hj (by omega))] at this; exact this)
              clear HR_ HF cS2 wn y0 y1
              go_wp2_with fail
              go_loopg [9] n (fun gk s9 wr => ∃ (i : Nat) (R : Nat → Prop), i + gk = n ∧ s9 = .int .i64 (i : Int) ∧ HR R wr h (rest (ln, ld) i (n - i)) (n : Int) ∧ (∀ k, R k → W1.heap.size ≤ k) ∧ Below W1.heap.size W1 wr)
              case atStart => exact ⟨0, R, by omega, rfl, HR3.out, HN.out, HB.out⟩
              case round =>
                clear HR3 HN HB hbl
                obtain ⟨i, R, hgi, rfl, hR, hN, hB⟩ := hrel
                have HR_ := hidd hR
                have HN := hidd hN
                have HB := hidd hB
                have y0 := (hB.cell (p := ⟨w.heap.size, 0, none⟩) hsz).trans x0.out
                have y1 := (hB.cell (p := ⟨w.heap.size, 1, none⟩) hsz).trans x1.out
                have hbl : w.heap.size < wr.heap.size := Nat.lt_of_lt_of_le hsz hB.size
                clear hR hN hB
                by_cases hin : i < n
                · have z5 : (i : Int) < (n : Int) := by omega
                  have wi : IntKind.i64.wrap ((i : Int) + 1) = ((i + 1 : Nat) : Int) := by rw [IntKind.wrap_i64]; omega
                  have CT : Hid (Calls Try.prog 16 #[.pointer (some ⟨h, 0, none⟩)] wr fun e w' => e = .returned (.tuple #[agI (mkI (fun _ => (ln, ld)) i), .bool true]) ∧ ∃ R', HR R' w' h (rest (ln, ld) (i + 1) (n - (i + 1))) (n : Int) ∧ Sav R wr w' ∧ Nxt R R' wr) := by
                    have q := HR_.out
                    rw [show n - i = (n - (i + 1)) + 1 by omega] at q
                    have := takeR q (rest_min _ _ _)
                    rw [rest_erase] at this
                    exact this
                  unfold agI mkI iD kN kD tN at CT
                  go_wp2_with fail
                  refine CT.out.mono ?_
                  rintro e w2 ⟨rfl, R2, hR2, hS2, hN2⟩
                  have HB2 := hidd (HB.out.trans (hS2.below HB.out.size HN.out))
                  have HN2 : Hid (∀ k, R2 k → W1.heap.size ≤ k) := hidd (fun k hk => by
                    rcases Nat.lt_or_ge k wr.heap.size with q | q
                    · exact HN.out k (hN2 k q hk)
                    · have := HB.out.size; omega)
                  have HR2 := hidd hR2
                  have t0 := (HB2.out.cell (p := ⟨w.heap.size, 0, none⟩) hsz).trans x0.out
                  have t1 := (HB2.out.cell (p := ⟨w.heap.size, 1, none⟩) hsz).trans x1.out
                  have hbl2 : w.heap.size < w2.heap.size := Nat.lt_of_lt_of_le hsz HB2.out.size
                  have hs2' := HB2.out.size
                  clear hR2 hS2 hN2 CT y0 y1
                  go_wp2_with fail
                  go_roundg (gk - 1)
                  case measure => omega
                  case rel => exact ⟨i + 1, R2, by omega, by go_num, HR2.out.below (by (repeat' (first | (with_reducible exact Below.refl _ _) | (with_reducible assumption) | (with_reducible apply Below.setCell) | (with_reducible apply Below.alloc) | (with_reducible apply Below.drew) | (with_reducible apply below_drewN) | (with_reducible refine Below.trans ?_ (Below.mono (by assumption) ?_)) | omega | (simp; done) | (simp; omega)))), HN2.out, by have b := HB2.out; (repeat' (first | (with_reducible exact Below.refl _ _) | (with_reducible assumption) | (with_reducible apply Below.setCell) | (with_reducible apply Below.alloc) | (with_reducible apply Below.drew) | (with_reducible apply below_drewN) | (with_reducible refine Below.trans ?_ (Below.mono (by assumption) ?_)) | omega | (simp; done) | (simp; omega)))⟩
                · have z5 : ¬ (i : Int) < (n : Int) := by omega
                  have CE : Hid (Calls Try.prog 14 #[.pointer (some ⟨h, 0, none⟩)] wr fun e w' => e = .returned (.int .i64 0) ∧ wr = w') := by
                    have q := HR_.out
                    rw [show n - i = 0 by omega] at q
                    exact lenR q
                  go_wp2_with fail
                  refine CE.out.mono ?_
                  rintro e w2 ⟨rfl, rfl⟩
                  go_wp2_with fail
                  refine (cK.out _).mono ?_
                  rintro e w2 ⟨rfl, hb2⟩
                  have BZ := (BW.out.trans (HB.out.mono (Nat.le_of_lt hsz))).trans (hb2.mono (Nat.le_of_lt hbl))
                  go_wp2_with fail
                  go_ret
                  exact ⟨rfl, BZ⟩
        · have cS := hidd (setR_bad HR_.out (id := 0) l0 l1 l2 l3 (n := ln) (d := ld) (by
            cases e : mayB 0 ln ld
            · rfl
            · exact absurd ((mayB_iff _ _ _).1 e).2.2 hr))
          clear HF l0 l1 l2 l3 hr
          go_wp2_with fail
          refine cS.out.mono ?_
          rintro e w2 ⟨rfl, hb2⟩
          have HB2 := hidd hb2
          have hs2 := hb2.size
          clear hb2
          go_wp2_with fail
          refine (cK.out _).mono ?_
          rintro e w3 ⟨rfl, hb3⟩
          have BZ := ((BW.out.trans (HB.out.mono (Nat.le_of_lt hsz))).trans (HB2.out.mono (Nat.le_of_lt hbl))).trans (hb3.mono (by omega))
          go_wp2_with fail
          go_ret
          exact ⟨rfl, BZ⟩
end Go.Proofs.Ytnjkfpjccedkjaa.Hp
