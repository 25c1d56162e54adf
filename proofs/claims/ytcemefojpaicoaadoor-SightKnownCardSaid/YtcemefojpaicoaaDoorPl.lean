/- The chapter's lines of SightKnown: what the plain specification says of them. -/
import Derived.Test.YtcemefojpaicoaaDoorWs
import Derived.Test.YtcemefojpaicoaaDoorU
import Derived.Test.YtcemefojpaicoaaDoorYr
import Derived.Test.YtcemefojpaicoaaDoorLk
import Derived.Test.YtcemefojpaicoaaDoorRb
namespace Go.Proofs.YtcemefojpaicoaaDoor
open Go.RowKit Go.Shelf

def lineS : Line := { lineC with total := 0 }
def lineM1 : Line := lineL [⟨15, 7⟩] [⟨15, 3⟩] [⟨15, 7⟩]
def lineM2 : Line := lineL [⟨15, 7⟩] [⟨15, 3⟩] [⟨15, 1⟩]
def lineM3 : Line := lineL [⟨15, 7⟩] [⟨15, 3⟩] [⟨15, 0⟩]
def lineM4 : Line := lineL [⟨15, 7⟩, ⟨4, 0⟩] [⟨15, 3⟩] [⟨3, 0⟩]
theorem lineS_ok : lineS.ok := by decide +kernel
theorem lineM1_ok : lineM1.ok := by decide +kernel
theorem lineM2_ok : lineM2.ok := by decide +kernel
theorem lineM3_ok : lineM3.ok := by decide +kernel
theorem lineM4_ok : lineM4.ok := by decide +kernel
theorem lineC_handsOf : handsOf lineC = [0, 1] := by decide +kernel
theorem lineS_handsOf : handsOf lineS = [0] := by decide +kernel
theorem lineM2_handsOf : handsOf lineM2 = [0] := by decide +kernel
theorem lineM3_handsOf : handsOf lineM3 = [] := by decide +kernel
theorem lineM4_handsOf : handsOf lineM4 = [] := by decide +kernel
theorem lineC_years : yearsOf lineC = (-400, -200) := by decide +kernel
theorem lineS_years : yearsOf lineS = (-400, -300) := by decide +kernel
theorem lineC_marks : marksOf lineC = 0 := by decide +kernel
theorem lineM1_marks : marksOf lineM1 = 0 := by decide +kernel
theorem lineS_print : (printTo (lettersOf lineS)).data.toList = [65, 76, 84] := by decide +kernel
theorem lineC_look : lookAt (restL lineC) 2 = (1, 2) := by decide +kernel
theorem lineC_small : lineC.small := by unfold Line.small; decide +kernel
theorem lineC_sheet : sheetOf lineC = "hand -400 -300 A7 L3 T12\nhand -320 -200 A15 L3 T12\nmarks 1 0 1\nsquare 15/7\nsquare 15/3\nsquare 3/0\nfinis\n".toUTF8.data.toList := by decide +kernel
end Go.Proofs.YtcemefojpaicoaaDoor
