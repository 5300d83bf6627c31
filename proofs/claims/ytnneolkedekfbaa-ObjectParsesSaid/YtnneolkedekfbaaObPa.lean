/- Objects: the walk of ObjectParses. -/
import Derived.Test.YtnneolkedekfbaaObZ
import Derived.Test.YtnneolkedekfbaaRowD
namespace Go.Proofs.Ytnneolkedekfbaa
set_option linter.unusedVariables false
open Go.RowKit
set_option maxRecDepth 100000 in
set_option maxHeartbeats 16000000 in
theorem parses_walk (A : Option Addr) (L : List Int) (c : Nat) (hlc : L.length ≤ c) (hcm : c ≤ maxLen) (hb : Bytes L) (w : World) (hl : Lie byV 1 w w.heap.size A L) :
    Calls Try.prog 4 #[.slice A L.length c] w fun e w' => e = .returned (.bool true) ∧ Below w.heap.size w w' := by
  have CK := hidd (fun W => known_any W)
  have HL := hidd (show LieQ byV 1 w (· < w.heap.size) A L from hl)
  by_cases h4000 : 4000 < (L.length : Int)
  · clear hlc hcm hb hl
    go_enter Try.func4, Try.ntmps4
    go_wp2_with fail
    refine (CK.out _).mono ?_
    rintro e w2 ⟨rfl, hb2⟩
    have HB2 := hidd hb2
    clear hb2
    go_wp2_with fail
    go_ret
    exact ⟨rfl, HB2.out⟩
  have HP := hidd (Parse_any A L c (by omega) hlc hcm hb w hl)
  have HR := hidd (fun W h => refParse7 A L c (by omega) hb W h)
  have HBY := hidd hb
  clear hlc hcm hb hl
  go_enter Try.func4, Try.ntmps4
  go_wp2_with fail
  refine HP.out.mono ?_
  rintro e w1 ⟨hb1, (⟨k, os, A1, c1, hg, hk, rfl, ho⟩ | ⟨hno, rfl⟩)⟩
  rotate_left
  · have HB1 := hidd hb1
    have HNO := hidd hno
    clear hb1 hno
    go_wp2_with fail
    refine (HR.out _ (HL.out.below HB1.out)).mono ?_
    rintro e w2 ⟨hb2, (⟨k, os, A1, c1, hg, _⟩ | ⟨_, rfl⟩)⟩
    · exact absurd hg (HNO.out k)
    have HB2 := hidd (below_step HB1.out hb2)
    clear hb2
    go_wp2_with fail
    refine (CK.out _).mono ?_
    rintro e w3 ⟨rfl, hb3⟩
    have HB3 := hidd (below_step HB2.out hb3)
    clear hb3
    go_wp2_with fail
    go_ret
    exact ⟨by first | rfl | simp, HB3.out⟩
  obtain ⟨hgr, hrk⟩ := good_raw HBY.out hg
  have hal : allR os := fun o ho => by
    have : keyO o ∈ keysTo L k := by rw [← hk]; exact List.mem_map.2 ⟨o, ho, rfl⟩
    exact hrk _ this
  have hol : os.length ≤ 40 := by
    have := congrArg List.length hk
    rw [List.length_map, keysTo_len] at this
    have := hg.2.1
    omega
  have hra : rawAll os = L := by rw [rawAll_keys, hk]; exact hgr
  have HB1 := hidd hb1
  have HO1 := hidd (show Obs w1 (· < w1.heap.size) A1 os from ho.to (fun q hq => ⟨hq.2, rfl⟩))
  have HGK := hidd (And.intro hg (And.intro hk (And.intro hal hra)))
  have HCV := hidd (fun A n c (hn : L.length = n) W B h => conv_any A L n c hn W B h)
  have hws : ∀ o ∈ os, o.ws.length ≤ 9223372036854775807 := fun o ho => by have := allR.le hal o ho; omega
  have HWS := hidd hws
  generalize strOfNums L = S at *
  clear hb1 hg hk ho hgr hrk hal hra hws
  go_wp2_with fail
  refine (HR.out _ (HL.out.below HB1.out)).mono ?_
  rintro e w2 ⟨hb2, (⟨k2, ot, A2, c2, hg2, hk2, rfl, ho2⟩ | ⟨hno, rfl⟩)⟩
  rotate_left
  · exact absurd HGK.out.1 (hno k)
  obtain rfl := Good.one hg2 HGK.out.1
  have HB2 := hidd (below_step HB1.out hb2)
  have HO12 := hidd (HO1.out.below hb2)
  have HO2 := hidd ho2
  have HK2 := hidd (show os.map keyO = ot.map keyO by rw [hk2, HGK.out.2.1])
  clear hb2 ho2 hg2 hk2
  go_wp2_with fail
  refine (Raw_got A1 os c1 (by omega) HWS.out w2 HO12.out).mono ?_
  rintro e w3 ⟨Ab, n, cb, kk, rfl, hb3, hres⟩
  obtain ⟨hn, _, _, rfl, hlb⟩ : n = (rawAll os).length ∧ n ≤ cb ∧ cb ≤ maxLen ∧ kk = 0 ∧ LieQ byV 1 w3 (fun q => w2.heap.size ≤ q ∧ q < w3.heap.size) Ab (rawAll os) := by
    rcases hres with ⟨_, _, h1, h2, h3, h4, h5⟩ | ⟨h, _⟩ | ⟨_, h, _⟩
    · exact ⟨h1, h2, h3, h4, h5⟩
    · exact absurd HGK.out.2.2.1 h
    · exact absurd hol h
  rw [HGK.out.2.2.2] at hn hlb
  subst hn
  have HB3 := hidd (below_step HB2.out hb3)
  have HLB := hidd (show LieQ byV 1 w3 (· < w3.heap.size) Ab L from hlb.to (fun q hq => ⟨hq.2, rfl⟩))
  have HS := hidd (same_at A1 os os.length c1 A2 ot ot.length c2 rfl rfl HK2.out (by omega) (fun o ho => by
    obtain ⟨j, hj, rfl⟩ := List.mem_iff_getElem.1 ho
    have hj2 : j < os.length := by have := key_len HK2.out; omega
    rw [← (key_at HK2.out hj2 hj).2.2]
    exact HWS.out _ (List.getElem_mem hj2)) w3 (HO12.out.below hb3) (HO2.out.below hb3))
  clear hb3 hres hlb
  go_wp2_with fail
  refine HS.out.mono ?_
  rintro e w4 ⟨rfl, hb4⟩
  have HB4 := hidd (below_step HB3.out hb4)
  have k1 := HCV.out Ab _ cb rfl w4 w4.heap.size (LieQ.lie (HLB.out.below hb4))
  have k2 := HCV.out A _ c rfl w4 w4.heap.size (LieQ.lie (HL.out.below HB4.out))
  clear hb4
  go_wp2_with fail
  refine (CK.out _).mono ?_
  rintro e w5 ⟨rfl, hb5⟩
  have HB5 := hidd (below_step HB4.out hb5)
  clear hb5
  go_wp2_with fail
  go_ret
  exact ⟨by first | rfl | simp, HB5.out⟩
end Go.Proofs.Ytnneolkedekfbaa
