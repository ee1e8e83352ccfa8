/- For every two truths and either operator the statement ExprShort answers true (AND stops at False, OR at True: what is behind isn't looked at, else it is), and its arguments read as they did. Conditions: none beyond the row's own; the listed package variable is tied to the program's text. -/
import Derived.Test.YtehgoioinogmkaaGreatDoorJCShelfXEv7XKnXShort
import Derived.Test.YtehgoioinogmkaaGreatDoorJVSum3VTest2VKnownVLaid
import Derived.ChangeOld
import Derived.Below
import Derived.Test.YtehgoioinogmkaaGreatDoorCards
import Derived.Test.YtehgoioinogmkaaGreatDoorTie
import Derived.SevenTiedAt
namespace Go.Proofs.YtehgoioinogmkaaGreatDoor
open Go.ChangeShapes Go.WideShapes Go.ChangeAt Go.RowKit Go.Lib

#print axioms xshort_holds
end Go.Proofs.YtehgoioinogmkaaGreatDoor
