/- Package disk's Put, whole; the conditions: the files lie in memory, no name is longer than a string can be. -/
import Derived.Test.YtjalklmgdkhekaaDoorDkPutB
import Derived.Test.YtjalklmgdkhekaaDoorDkPutC
import Derived.Test.YtjalklmgdkhekaaDoorDkPutD
namespace Go.Proofs.YtjalklmgdkhekaaDoor
open Go.RowKit

theorem dkPut_any (c : Int) (fs : List Fl) (ao : Option Addr) (cap : Nat) (n : ByteArray) (x : Int) (w : World) (hr : RowK w ao fs) (hz : FlZ fs) (hs : fs.length ≤ cap) (hcap : cap ≤ maxLen) (hn : n.size ≤ maxLen) :
    Calls Tryd.prog 5 #[dkV c ao fs.length cap, .string n, .int .i64 x] w (PutSays c fs (bl n) x w) := by
  cases hok : dkOk c fs
  · exact put_form1 c fs ao cap n x w hr hz hs hcap hn hok
  cases hok2 : (pthB (bl n) && coOk x)
  · exact put_form2 c fs ao cap n x w hr hz hs hcap hn hok hok2
  by_cases hm : c = 1048576
  · cases hf : fnF fs (bl n) with
    | some f0 => exact put_full1 c fs ao cap n x w hr hz hs hcap hn hok hok2 f0 hf hm
    | none => exact put_full2 c fs ao cap n x w hr hz hs hcap hn hok hok2 hf hm
  · cases hf : fnF fs (bl n) with
    | some f0 => exact put_old c fs ao cap n x w hr hz hs hcap hn hok hok2 f0 hf hm
    | none =>
      by_cases h64 : fs.length = 64
      · exact put_full3 c fs ao cap n x w hr hz hs hcap hn hok hok2 hf hm h64
      · exact put_fresh c fs ao cap n x w hr hz hs hcap hn hok hok2 hf hm h64

end Go.Proofs.YtjalklmgdkhekaaDoor
