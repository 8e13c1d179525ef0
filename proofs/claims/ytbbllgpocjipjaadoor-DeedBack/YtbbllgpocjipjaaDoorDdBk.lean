/- DeedBack, whatever the deed and the bytes. -/
import Derived.Test.YtbbllgpocjipjaaDoorDdBk1
import Derived.Test.YtbbllgpocjipjaaDoorDdBk2
import Derived.Test.YtbbllgpocjipjaaDoorDdBk3
import Derived.Test.YtbbllgpocjipjaaDoorDdBk4
import Derived.Test.YtbbllgpocjipjaaDoorDdBk5
import Derived.Test.YtbbllgpocjipjaaDoorDdBk6
import Derived.Test.YtbbllgpocjipjaaDoorDd2
namespace Go.Proofs.YtbbllgpocjipjaaDoor.DD
open Go.RowKit

theorem back_any (f : Fl) (ps : List Fl) (A1 A2 A3 : Option Addr) (c1 c2 c3 : Nat) (AB AM : Option Addr) (CB CM : Nat) (B M : List UInt8) (cut : Int) (w : World) (hL : PA.Laid w) (hv : DVal w f ps A1 c1 A2 c2 A3 c3) (hf : DedFit f ps) (hl : f.np ≤ 9223372036854775807) (hb : Bs w (.slice AB B.length CB) B) (hm : Bs w (.slice AM M.length CM) M) (hbl : B.length ≤ 140737488355328) (hml : M.length ≤ 140737488355328) (hcut : I64 cut) :
    Calls Tryd.prog 4 #[.agg #[.int .i64 f.zxid, .int .u8 f.kind, .int .i64 f.session, .int .i64 f.turn, .int .i64 f.xid, .int .i64 f.time, .string (mkS f.path), .slice A1 f.data.length c1, .int .i64 f.owner, .int .i64 f.version, .int .i64 f.cversion, .int .i64 f.timeout, .int .i64 f.err, .int .i64 f.cver, .slice A2 f.mems.length c2, .slice A3 f.np c3], .slice AB B.length CB, .int .i64 cut, .slice AM M.length CM] w fun e w' => e = .returned (.bool true) ∧ Below w.heap.size w w' := by
  cases hr : rightD f ps with
  | false =>
    cases ho : deedOf B with
    | none => exact B1.back_any f ps A1 A2 A3 c1 c2 c3 AB AM CB CM B M cut w hL hv hf hl hb hm hbl hml hcut hr ho
    | some p => exact B2.back_any f ps A1 A2 A3 c1 c2 c3 AB AM CB CM B M cut w hL hv hf hl hb hm hbl hml hcut hr p.1 p.2 ho
  | true =>
    have hmm := right_mems hf hr
    by_cases h0 : M = []
    · cases ho : deedOf B with
      | none => exact B5.back_any f ps A1 A2 A3 c1 c2 c3 AB AM CB CM B M cut w hL hv hf hl hb hm hbl hml hcut hr hmm ho h0
      | some p => exact B6.back_any f ps A1 A2 A3 c1 c2 c3 AB AM CB CM B M cut w hL hv hf hl hb hm hbl hml hcut hr hmm p.1 p.2 ho h0
    · cases ho : deedOf B with
      | none => exact B3.back_any f ps A1 A2 A3 c1 c2 c3 AB AM CB CM B M cut w hL hv hf hl hb hm hbl hml hcut hr hmm ho h0
      | some p => exact B4.back_any f ps A1 A2 A3 c1 c2 c3 AB AM CB CM B M cut w hL hv hf hl hb hm hbl hml hcut hr hmm p.1 p.2 ho h0
end Go.Proofs.YtbbllgpocjipjaaDoor.DD
