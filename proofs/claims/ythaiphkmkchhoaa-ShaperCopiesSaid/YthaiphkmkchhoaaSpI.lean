/- The document's answer: who keeps to a spec. The walk. -/
import Derived.Test.YthaiphkmkchhoaaSpH
import Derived.Test.YthaiphkmkchhoaaSpN
namespace Go.Proofs.Ythaiphkmkchhoaa
open Go.RowKit

theorem Lie.at_ {w : World} {B : Nat} {A : Option Addr} {l : List (Int × Int)} (h : Lie sendV 2 w B A l) (i : Nat) (hi : i < l.length) :
    ∃ ad, A = some ad ∧ (ad.add (i * 2)).block < B ∧ w.cell? (ad.add (i * 2)) = some (.int .i64 (SM.av l i)) ∧ w.cell? ⟨(ad.add (i * 2)).block, (ad.add (i * 2)).off + 1, none⟩ = some (.int .i64 (SM.sv l i)) := by
  obtain ⟨ad, e, hB, h0, h1⟩ := h.send i hi
  refine ⟨ad, e, by rw [block_of_add]; exact hB, ?_, ?_⟩
  · rw [h0]; simp [SM.av, List.getD_eq_getElem?_getD, List.getElem?_eq_getElem hi]
  · rw [h1]; simp [SM.sv, List.getD_eq_getElem?_getD, List.getElem?_eq_getElem hi]
theorem S_bd {a s : Nat → Int} {m l : Int} (hl : 1 ≤ l) (hm : m ≤ 2000) {n : Nat} (h : ∀ j, j < n → SM.OkAt a s m l j) (i : Nat) : ∀ k, i ≤ k → k ≤ n → 0 ≤ SM.S s k - SM.S s i ∧ SM.S s k - SM.S s i ≤ 2000 * (k : Int)
  | 0, hik, _ => by
    obtain rfl : i = 0 := by omega
    simp
  | k + 1, hik, hk => by
    by_cases e : i = k + 1
    · subst e; omega
    · have ih := S_bd hl hm h i k (by omega) (by omega)
      have := h k (by omega)
      obtain ⟨_, _, h3, h4, _⟩ := this
      have e3 : SM.S s (k + 1) = SM.S s k + s k := rfl
      rw [e3]
      omega
theorem a_mono {a s : Nat → Int} {m l : Int} {n : Nat} (h : ∀ j, j < n → SM.OkAt a s m l j) (i : Nat) : ∀ k, i ≤ k → k < n → a i ≤ a k
  | 0, hik, _ => by
    obtain rfl : i = 0 := by omega
    omega
  | k + 1, hik, hk => by
    by_cases e : i = k + 1
    · subst e; omega
    · have ih := a_mono h i k (by omega) (by omega)
      have := (h (k + 1) hk).2.2.2.2 (by omega)
      simp at this
      omega
theorem minl_is (p r u m t : Int) : SM.minl p r u m t = allowsV p r u m t := rfl
def RKeepsEnd (p r u m l : Int) (L : List (Int × Int)) (w : World) (e : Ending) (w' : World) : Prop :=
  ∃ b : Bool, e = .returned (.bool b) ∧ (b = true ↔ SM.KP (SM.av L) (SM.sv L) p r u m l L.length) ∧ Below w.heap.size w w'
theorem not_kp {p r u m l : Int} {a s : Nat → Int} {n i : Nat} (hi : i < n) (h : ¬ SM.OkAt a s m l i) : (false = true ↔ SM.KP a s p r u m l n) :=
  ⟨fun e => (by cases e), fun hk => absurd (hk.1 i hi) h⟩

set_option maxRecDepth 100000 in
set_option maxHeartbeats 16000000 in
theorem refKeeps_any (p r u m l : Int) (hr : rightB p r u m l = true) (A : Option Addr) (L : List (Int × Int)) (n c : Nat) (hn : L.length = n) (hm : n ≤ 1000000) (w : World) (hl : Lie sendV 2 w w.heap.size A L) :
    Calls Try.prog 53 #[.agg #[.int .i64 p, .int .i64 r, .int .i64 u, .int .i64 m, .int .i64 l], .slice A n c] w (RKeepsEnd p r u m l L w) := by
  have HR := hidd hr
  have HL := hidd hl
  have HN := hidd hn
  clear hr hl hn
  have hat : Hid (∀ k, k < n → ∃ ad, A = some ad ∧ (ad.add (k * 2)).block < w.heap.size ∧ w.cell? (ad.add (k * 2)) = some (.int .i64 (SM.av L k)) ∧ w.cell? ⟨(ad.add (k * 2)).block, (ad.add (k * 2)).off + 1, none⟩ = some (.int .i64 (SM.sv L k))) := hidd fun k hk => HL.out.at_ k (by rw [HN.out]; exact hk)
  unfold RKeepsEnd
  rw [HN.out]
  generalize SM.av L = a at *
  generalize SM.sv L = s at *
  have cv := hidd (fun t k0 k1 W => refAllows_any p r u m l t HR.out k0 k1 W)
  go_enter Try.func53, Try.ntmps53
  go_wp2_with fail
  go_loopg [5] (n + 1) (fun k s5 wr => ∃ (i nq : Nat), i ≤ n ∧ i + k = n + 1 ∧ s5 = .int .i64 (i : Int) ∧ (∀ j, j < i → SM.OkAt a s m l j) ∧ wr = (w.alloc (.cells #[.int .i64 p, .int .i64 r, .int .i64 u, .int .i64 m, .int .i64 l] 23)).drewN nq)
  case atStart => exact ⟨0, 0, by omega, by omega, rfl, fun j hj => absurd hj (by omega), rfl⟩
  case round =>
    obtain ⟨i, nq, hi, hk, rfl, hok, rfl⟩ := hrel
    have HK := hidd hk
    have HO := hidd hok
    clear hk hok
    by_cases hlt : i < n
    · obtain ⟨ad, rfl, hadb, x0, x1⟩ := hat.out i hlt
      by_cases g0 : a i < 0
      · go_wp2_with fail
        go_quiet (fail)
        go_wp2_with fail
        go_ret
        exact ⟨false, rfl, not_kp hlt (fun h => by have := h.1; omega), by (repeat' (first | (with_reducible exact Below.refl _ _) | (with_reducible assumption) | (with_reducible apply Below.setCell) | (with_reducible apply Below.alloc) | (with_reducible apply Below.drew) | (with_reducible apply below_drewN) | (with_reducible refine Below.trans ?_ (Below.mono (by assumption) ?_)) | omega | (simp; done) | (simp; omega)))⟩
      · have d0 : decide (a i < 0) = false := decide_eq_false g0
        by_cases g1 : 2147483647 < a i
        · go_wp2_with fail
          go_quiet (fail)
          go_wp2_with fail
          go_ret
          exact ⟨false, rfl, not_kp hlt (fun h => by have := h.2.1; omega), by (repeat' (first | (with_reducible exact Below.refl _ _) | (with_reducible assumption) | (with_reducible apply Below.setCell) | (with_reducible apply Below.alloc) | (with_reducible apply Below.drew) | (with_reducible apply below_drewN) | (with_reducible refine Below.trans ?_ (Below.mono (by assumption) ?_)) | omega | (simp; done) | (simp; omega)))⟩
        · have d1 : decide (2147483647 < a i) = false := decide_eq_false g1
          by_cases g2 : s i < l
          · go_wp2_with fail
            go_quiet (fail)
            go_wp2_with fail
            go_ret
            exact ⟨false, rfl, not_kp hlt (fun h => by have := h.2.2.1; omega), by (repeat' (first | (with_reducible exact Below.refl _ _) | (with_reducible assumption) | (with_reducible apply Below.setCell) | (with_reducible apply Below.alloc) | (with_reducible apply Below.drew) | (with_reducible apply below_drewN) | (with_reducible refine Below.trans ?_ (Below.mono (by assumption) ?_)) | omega | (simp; done) | (simp; omega)))⟩
          · have d2 : decide (s i < l) = false := decide_eq_false g2
            by_cases g3 : m < s i
            · go_wp2_with fail
              go_quiet (fail)
              go_wp2_with fail
              go_ret
              exact ⟨false, rfl, not_kp hlt (fun h => by have := h.2.2.2.1; omega), by (repeat' (first | (with_reducible exact Below.refl _ _) | (with_reducible assumption) | (with_reducible apply Below.setCell) | (with_reducible apply Below.alloc) | (with_reducible apply Below.drew) | (with_reducible apply below_drewN) | (with_reducible refine Below.trans ?_ (Below.mono (by assumption) ?_)) | omega | (simp; done) | (simp; omega)))⟩
            · have d3 : decide (m < s i) = false := decide_eq_false g3
              cases i with
              | zero =>
                have ea : ad.add (0 * 2) = ad := rfl
                rw [ea] at hadb x0 x1
                clear ea
                go_wp2_with fail
                go_quiet (fail)
                go_wp2_with fail
                have hk := HK.out
                go_roundg (gk - 1)
                case measure => omega
                case rel => exact ⟨1, _, by omega, by omega, by go_num, fun j hj => by
                  obtain rfl : j = 0 := by omega
                  exact ⟨by omega, by omega, by omega, by omega, fun h => absurd h (by omega)⟩, rfl⟩
              | succ j =>
                obtain ⟨ad', e', hadb', y0, y1⟩ := hat.out j (by omega)
                obtain rfl : ad = ad' := by injection e'
                have gj : IntKind.i64.wrap (((j + 1 : Nat) : Int) - 1) = (j : Int) := by rw [IntWalk.i64_in _ (by omega)]; omega
                have hj0 : decide ((0 : Int) < ((j + 1 : Nat) : Int)) = true := decide_eq_true (by omega)
                clear e'
                by_cases g4 : a (j + 1) < a j
                · go_wp2_with fail
                  go_quiet (fail)
                  go_wp2_with fail
                  go_ret
                  exact ⟨false, rfl, not_kp hlt (fun h => by have := h.2.2.2.2 (by omega); simp at this; omega), by (repeat' (first | (with_reducible exact Below.refl _ _) | (with_reducible assumption) | (with_reducible apply Below.setCell) | (with_reducible apply Below.alloc) | (with_reducible apply Below.drew) | (with_reducible apply below_drewN) | (with_reducible refine Below.trans ?_ (Below.mono (by assumption) ?_)) | omega | (simp; done) | (simp; omega)))⟩
                · have d4 : decide (a (j + 1) < a j) = false := decide_eq_false g4
                  go_wp2_with fail
                  go_quiet (fail)
                  go_wp2_with fail
                  have hk := HK.out
                  go_roundg (gk - 1)
                  case measure => omega
                  case rel => exact ⟨j + 1 + 1, _, by omega, by omega, by go_num, fun k hk => by
                    by_cases h : k = j + 1
                    · subst h; exact ⟨by omega, by omega, by omega, by omega, fun _ => by simp; omega⟩
                    · exact HO.out k (by omega), rfl⟩
    · have hall : ∀ j, j < n → SM.OkAt a s m l j := fun j hj => HO.out j (by omega)
      have HALL := hidd hall
      clear hall HO HK
      go_wp2_with fail
      go_loopg [6] (n + 1) (fun k s6 wr => ∃ (i : Nat), i ≤ n ∧ i + k = n + 1 ∧ s6 = .int .i64 (i : Int) ∧ (∀ i' k', i' ≤ k' → k' < n → i' < i → SM.S s (k' + 1) - SM.S s i' ≤ SM.minl p r u m (a k' - a i')) ∧ Below w.heap.size w wr ∧ HasSpec wr w.heap.size p r u m l)
      case atStart => exact ⟨0, by omega, by omega, rfl, fun _ _ _ _ h => absurd h (by omega), by (repeat' (first | (with_reducible exact Below.refl _ _) | (with_reducible assumption) | (with_reducible apply Below.setCell) | (with_reducible apply Below.alloc) | (with_reducible apply Below.drew) | (with_reducible apply below_drewN) | (with_reducible refine Below.trans ?_ (Below.mono (by assumption) ?_)) | omega | (simp; done) | (simp; omega))), (HasSpec.new w _ p r u m l).drew _⟩
      case round =>
        obtain ⟨i, hi, hk, rfl, hok, hB, hS⟩ := hrel
        have HK := hidd hk
        have HO := hidd hok
        have HB := hidd hB
        have HS := hidd hS
        clear hk hok hB hS
        by_cases hlt : i < n
        · go_wp2_with fail
          have hsb := hidd (S_bd (a := a) (s := s) (rightB_iff HR.out).2.2.2.1 (rightB_iff HR.out).2.2.2.2.2.1 HALL.out i)
          have hmo := hidd (a_mono (a := a) (s := s) HALL.out i)
          obtain ⟨ad, rfl, hadb, x0, x1⟩ := hat.out i hlt
          obtain ⟨gko, rfl⟩ : ∃ g, g = gk := ⟨gk, rfl⟩
          go_loopg [7, 8] (n + 1) (fun g s7 s8 wx => ∃ (k : Nat) (B : Int), i ≤ k ∧ k ≤ n ∧ k + g = n + 1 + i ∧ SM.S s k - SM.S s i = B ∧ s7 = .int .i64 B ∧ s8 = .int .i64 (k : Int) ∧ (∀ k', i ≤ k' → k' < k → SM.S s (k' + 1) - SM.S s i ≤ SM.minl p r u m (a k' - a i)) ∧ Below w.heap.size w wx ∧ HasSpec wx w.heap.size p r u m l)
          case atStart => exact ⟨i, 0, Nat.le_refl _, by omega, by omega, by omega, rfl, rfl, fun k' h1 h2 => absurd h2 (by omega), HB.out, HS.out⟩
          case round =>
            obtain ⟨k, B, hik, hk, hg, hSB, rfl, rfl, hrun, hB, hS⟩ := hrel
            have HG := hidd hg
            have HSB := hidd hSB
            have HRUN := hidd hrun
            have HB2 := hidd hB
            have HIK := hidd hik
            clear hg hSB hrun hik
            by_cases hkt : k < n
            · obtain ⟨ad', e', hadb', y0, y1⟩ := hat.out k hkt
              obtain rfl : ad = ad' := by injection e'
              clear e'
              have b := rightB_iff HR.out
              have o1 := HALL.out k hkt
              have o2 := HALL.out i hlt
              have o3 := hsb.out k HIK.out (by omega)
              have o4 := hmo.out k HIK.out hkt
              rw [HSB.out] at o3
              have z0 : wr.cell? (ad.add (i * 2)) = some (.int .i64 (a i)) := (HB2.out.cell hadb).trans x0
              have z1 : wr.cell? (ad.add (k * 2)) = some (.int .i64 (a k)) := (HB2.out.cell hadb').trans y0
              have z2 : wr.cell? ⟨(ad.add (k * 2)).block, (ad.add (k * 2)).off + 1, none⟩ = some (.int .i64 (s k)) := (HB2.out.cell (p := ⟨(ad.add (k * 2)).block, _, none⟩) hadb').trans y1
              obtain ⟨hz, d0, d1, d2, d3, d4⟩ := id hS
              have o5 : 0 ≤ s k ∧ s k ≤ 2000 := by have := o1.2.2; omega
              have o6 : 0 ≤ a k - a i ∧ a k - a i ≤ 2147483647 := by have := o1.2.1; have := o2.1; omega
              have cw := hidd (fun W => cv.out (a k - a i) o6.1 o6.2 W)
              have hnx : SM.S s (k + 1) - SM.S s i = B + s k := by
                have : SM.S s (k + 1) = SM.S s k + s k := rfl
                have := HSB.out
                omega
              have hwd : IntKind.i64.wrap (a k - a i) = a k - a i := IntWalk.i64_in _ (by omega)
              have hmin := hidd (minl_is p r u m (a k - a i))
              generalize allowsV p r u m (a k - a i) = V at *
              obtain ⟨o7, o8⟩ := o5
              obtain ⟨o9, o10⟩ := o3
              have HNX := hidd hnx
              generalize hd : a k - a i = d at *
              have HD := hidd hd
              clear hnx hd o1 o2 o4 o6 b x0 x1 y0 y1 hB
              go_wp2_with fail
              go_cut [101] (fun s101 wx => s101 = .bool (decide (V < B + s k)) ∧ Below w.heap.size w wx ∧ HasSpec wx w.heap.size p r u m l)
              case first =>
                have hB := HB2.out
                have hBs := hB.size
                have hq0 : (ad.add (i * 2)).block < wr.heap.size := Nat.lt_of_lt_of_le hadb hBs
                have hq1 : (ad.add (k * 2)).block < wr.heap.size := Nat.lt_of_lt_of_le hadb' hBs
                have HS' := hidd hS
                clear hmo hsb hS
                obtain ⟨pi, hpi⟩ : ∃ p, ad.add (i * 2) = p := ⟨_, rfl⟩
                obtain ⟨pk, hpk⟩ : ∃ p, ad.add (k * 2) = p := ⟨_, rfl⟩
                rw [hpi] at z0 hq0
                rw [hpk] at z1 hq1
                have hwe : IntKind.i64.wrap (a k - a i) = d := by rw [HD.out]; exact hwd
                have hwf : wrap64 (a k - a i) = d := by rw [HD.out, ← hwd]; simp [IntKind.wrap_i64, wrap64]
                clear z2 hadb hadb' hwd
                go_region_held3 (fun w' => w'.cell? ⟨w.heap.size, 0, none⟩ = some (.int .i64 p) ∧ w'.cell? ⟨w.heap.size, 1, none⟩ = some (.int .i64 r) ∧ w'.cell? ⟨w.heap.size, 2, none⟩ = some (.int .i64 u) ∧ w'.cell? ⟨w.heap.size, 3, none⟩ = some (.int .i64 m) ∧ w'.cell? ⟨w.heap.size, 4, none⟩ = some (.int .i64 l) ∧ w'.cell? pi = some (.int .i64 (a i)) ∧ w'.cell? pk = some (.int .i64 (a k))) ((first | exact pp | exact ⟨d0, d1, d2, d3, d4, z0, z1⟩)) ((go_at_call 68; refine (cw.out _).mono ?_; rintro E wp ⟨rfl, hbp⟩; have pp : wp.cell? ⟨w.heap.size, 0, none⟩ = some (.int .i64 p) ∧ wp.cell? ⟨w.heap.size, 1, none⟩ = some (.int .i64 r) ∧ wp.cell? ⟨w.heap.size, 2, none⟩ = some (.int .i64 u) ∧ wp.cell? ⟨w.heap.size, 3, none⟩ = some (.int .i64 m) ∧ wp.cell? ⟨w.heap.size, 4, none⟩ = some (.int .i64 l) ∧ wp.cell? pi = some (.int .i64 (a i)) ∧ wp.cell? pk = some (.int .i64 (a k)) := ⟨(by have q := Below.cell (p := ⟨w.heap.size, 0, none⟩) hbp hz; exact q.trans d0), (by have q := Below.cell (p := ⟨w.heap.size, 1, none⟩) hbp hz; exact q.trans d1), (by have q := Below.cell (p := ⟨w.heap.size, 2, none⟩) hbp hz; exact q.trans d2), (by have q := Below.cell (p := ⟨w.heap.size, 3, none⟩) hbp hz; exact q.trans d3), (by have q := Below.cell (p := ⟨w.heap.size, 4, none⟩) hbp hz; exact q.trans d4), (by have q := Below.cell (p := pi) hbp hq0; exact q.trans z0), (by have q := Below.cell (p := pk) hbp hq1; exact q.trans z1)⟩))
                all_goals go_wp2_with fail
                all_goals go_meet
                all_goals (refine ⟨rfl, ?_, ?_⟩)
                all_goals first | (have hsz := Below.size hbp; (try simp at hsz); (repeat' (first | (with_reducible exact Below.refl _ _) | (with_reducible assumption) | (with_reducible apply Below.setCell) | (with_reducible apply Below.alloc) | (with_reducible apply Below.drew) | (with_reducible apply below_drewN) | (with_reducible refine Below.trans ?_ (Below.mono (by assumption) ?_)) | omega | (simp; done) | (simp; omega))); done) | exact ⟨Nat.lt_of_lt_of_le hz (by have hsz := Below.size hbp; (try simp at hsz); first | exact hsz | simpa using hsz), by simp [go_sem, *], by simp [go_sem, *], by simp [go_sem, *], by simp [go_sem, *], by simp [go_sem, *]⟩
              case rest =>
                obtain ⟨rfl, hB, hS⟩ := hcut
                clear hwd cw
                have HB3 := hidd hB
                have HS3 := hidd hS
                by_cases hV : V < B + s k
                · go_wp2_with fail
                  go_ret
                  refine ⟨false, rfl, ⟨fun e => (by cases e), fun h => ?_⟩, HB3.out⟩
                  have := h.2 i k HIK.out hkt
                  rw [HNX.out, HD.out, hmin.out] at this
                  omega
                · go_wp2_with fail
                  have hg := HG.out
                  go_roundg (gk - 1)
                  case measure => omega
                  case rel =>
                    refine ⟨k + 1, B + s k, by have := HIK.out; omega, by omega, by omega, HNX.out, rfl, by go_num, fun k' h1 h2 => ?_, HB3.out, HS3.out⟩
                    by_cases e : k' = k
                    · subst e; rw [HNX.out, HD.out, hmin.out]; omega
                    · exact HRUN.out k' h1 (by omega)
            · go_wp2_with fail
              have hk' : k = n := by omega
              have hgk := HK.out
              go_roundg (gko - 1)
              case measure => omega
              case rel =>
                refine ⟨i + 1, by omega, by omega, by go_num, fun i' k' h1 h2 h3 => ?_, HB2.out, hS⟩
                by_cases e : i' = i
                · subst e; exact HRUN.out k' h1 (by omega)
                · exact HO.out i' k' h1 h2 (by omega)
        · go_wp2_with fail
          go_ret
          refine ⟨true, rfl, ⟨fun _ => ⟨HALL.out, fun i k hik hk => HO.out i k hik hk (by omega)⟩, fun _ => rfl⟩, HB.out⟩
end Go.Proofs.Ythaiphkmkchhoaa
