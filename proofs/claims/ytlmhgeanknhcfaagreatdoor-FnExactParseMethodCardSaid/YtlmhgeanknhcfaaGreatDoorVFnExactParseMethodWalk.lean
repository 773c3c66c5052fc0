/-
  FnExactParseMethodWalk
-/
import Derived.Test.YtlmhgeanknhcfaaGreatDoorVLwFnExactParseMethod
import Derived.Test.YtlmhgeanknhcfaaGreatDoorB18
import Derived.Test.YtlmhgeanknhcfaaGreatDoorVImplParseM
import Derived.Test.YtlmhgeanknhcfaaGreatDoorVXtParseMethod
namespace Go.Proofs.YtlmhgeanknhcfaaGreatDoor.fnExactParseMethodW
open Go.RowKit
open Strs Tree zbv SpecParse
theorem walk (s:ByteArray) (hm:s.size<=maxLen) (w:World) {a:Addr} (hM:Errs.z1q a w):
  Calls Tryz.prog 5 #[.string s] w fun e w'=>e=.returned (.bool true)/\Below w.heap.size w w':=
 zxt s hm w hM (Data.zbc ((zdo s).getD zka)) (zdo s).isSome (Data.zj1 _) (zr5 s)
  (fun hs w' _=>zvo s w' hs) (fun _ w' h=>ParI.yc7 s w' h.1 h.2)
end Go.Proofs.YtlmhgeanknhcfaaGreatDoor.fnExactParseMethodW
