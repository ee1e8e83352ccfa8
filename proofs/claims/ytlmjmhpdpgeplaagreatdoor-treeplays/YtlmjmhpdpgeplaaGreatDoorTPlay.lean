/- TreePlays: its walk. -/
import Derived.Test.YtlmjmhpdpgeplaaGreatDoorTPlayG
import Derived.Test.YtlmjmhpdpgeplaaGreatDoorTPlayU
import Derived.Test.YtlmjmhpdpgeplaaGreatDoorTPlayD
import Derived.Test.YtlmjmhpdpgeplaaGreatDoorTPlayN0
import Derived.Test.YtlmjmhpdpgeplaaGreatDoorTPlayN1
namespace Go.Proofs.YtlmjmhpdpgeplaaGreatDoor
open Go.RowKit Go.Lib

theorem plays_law {w : World} (a : Option Addr) (ss : List PS) (n c : Nat) (hn : n = ss.length) (hin : InP w a ss) (hm : n ≤ maxLen) (hE : ET w) :
    Calls Tryz.prog 3 #[.slice a n c] w fun e w' => e = .returned (.bool true) ∧ Below w.heap.size w w' :=
  plays_cut.2.2.2.2.2.2.2 (hide (fun _ => way_w6)) (hide (fun _ => way_w10)) (hide (fun _ => way_put)) (hide (fun _ => way_del)) (hide (fun _ => way_n0)) (hide (fun _ => way_n1)) (hide (fun _ => way_wg)) w a ss n c hn hin hm hE
end Go.Proofs.YtlmjmhpdpgeplaaGreatDoor
