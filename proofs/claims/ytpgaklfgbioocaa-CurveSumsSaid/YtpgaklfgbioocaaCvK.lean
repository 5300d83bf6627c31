/- Curves: the library's sort puts lines in order. -/
import Derived.Test.YtpgaklfgbioocaaCvJ
import Derived.Test.YtpgaklfgbioocaaShelfS
namespace Go.Proofs.Ytpgaklfgbioocaa
set_option linter.unusedVariables false
open Go.RowKit Go.Proofs.Ytpgaklfgbioocaa.RowK Go.Shelf Go.Sort Go.Lib

theorem sortsLines : SortsLines := fun g cap base L W hL hO => by
  obtain ⟨hH, hb⟩ := hO.holds
  have eg : ∀ args w, (callFunc 36 args).run Try.prog w = .ok (.enter 36 args) w := enters_of Try.func36 (by kernel_rfl) rfl
  have h := AnyQ.slices_SortFunc Try.sortLine 2 Try.isAgg44 Try.sizeOf44 sendV sendV_len (fun x => sendV_one x) lineC lineO 36 #[] g 0 cap L.toArray W eg (lowest1_lays g 0 L.toArray.size W) hH hb (by simp; omega)
  change Calls Try.prog 48 _ _ _ at h
  rw [List.size_toArray] at h
  refine h.mono ?_
  rintro e w' ⟨rfl, d', n, os, hp, hs, rfl⟩
  have hd := line_sorted L.toArray d' (by simpa using hp) (by simpa using hs)
  exact ⟨rfl, hO.sorted d' hd, grownBy_sortedK d'⟩
end Go.Proofs.Ytpgaklfgbioocaa
