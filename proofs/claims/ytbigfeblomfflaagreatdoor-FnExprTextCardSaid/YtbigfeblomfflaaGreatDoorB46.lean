/-
  Max CutTrim ImplSkip
-/
import Derived.Test.YtbigfeblomfflaaGreatDoorB19
import Derived.Shelf.Strings.Replace
import Derived.Shelf.LaysM
import Derived.Shelf.Small.Wraps
import Derived.Shelf.Strings.Cut
import Derived.Shelf.Strings.SlTrimAscii
set_option maxHeartbeats 1000000
set_option maxRecDepth 10000
namespace Go.Proofs.YtbigfeblomfflaaGreatDoor
namespace Shelf
open Go.Shelf
def lays155_ren:Go.Shelf.Ren:=⟨fun|155=>232|154=>255|138=>216|165=>170|143=>246|166=>52|197=>251|169=>39|195=>244|218=>245|240=>118|241=>214|219=>254|260=>266|276=>171|277=>243|217=>268|225=>269|224=>270|267=>271|266=>275|314=>276|n=>n,fun|9=>9|3=>3|4=>4|72=>72|0=>0|76=>102|105=>269|21=>21|5=>5|70=>70|20=>20|37=>22|75=>101|127=>137|164=>205|46=>228|119=>283|139=>286|138=>285|146=>288|51=>287|80=>74|n=>n,fun|1=>1|3=>2|4=>3|n=>n⟩
theorem lays155:Go.Proofs.Lays.n155 Tryz.prog lays155_ren:={
 mixed:=by kernel_rfl
 f138:=Tryz.func216.trans (congrArg some (by kernel_rfl))
 f143:=Tryz.func246.trans (congrArg some (by kernel_rfl))
 f154:=Tryz.func255.trans (congrArg some (by kernel_rfl))
 f155:=Tryz.func232.trans (congrArg some (by kernel_rfl))
 f165:=Tryz.func170.trans (congrArg some (by kernel_rfl))
 f166:=Tryz.func52.trans (congrArg some (by kernel_rfl))
 f169:=Tryz.func39.trans (congrArg some (by kernel_rfl))
 f195:=Tryz.func244.trans (congrArg some (by kernel_rfl))
 f197:=Tryz.func251.trans (congrArg some (by kernel_rfl))
 f217:=Tryz.func268.trans (congrArg some (by kernel_rfl))
 f218:=Tryz.func245.trans (congrArg some (by kernel_rfl))
 f219:=Tryz.func254.trans (congrArg some (by kernel_rfl))
 f224:=Tryz.func270.trans (congrArg some (by kernel_rfl))
 f225:=Tryz.func269.trans (congrArg some (by kernel_rfl))
 f240:=Tryz.func118.trans (congrArg some (by kernel_rfl))
 f241:=Tryz.func214.trans (congrArg some (by kernel_rfl))
 f260:=Tryz.func266.trans (congrArg some (by kernel_rfl))
 f266:=Tryz.func275.trans (congrArg some (by kernel_rfl))
 f267:=Tryz.func271.trans (congrArg some (by kernel_rfl))
 f276:=Tryz.func171.trans (congrArg some (by kernel_rfl))
 f277:=Tryz.func243.trans (congrArg some (by kernel_rfl))
 f314:=Tryz.func276.trans (congrArg some (by kernel_rfl))
 t0:=Tryz.underlying0
 a0:=Tryz.isAgg0
 z0:=Tryz.sizeOf0
 v0:=Tryz.zeroValue0
 t3:=Tryz.underlying3
 a3:=Tryz.isAgg3
 z3:=Tryz.sizeOf3
 v3:=Tryz.zeroValue3
 t4:=Tryz.underlying4
 a4:=Tryz.isAgg4
 z4:=Tryz.sizeOf4
 v4:=Tryz.zeroValue4
 t5:=Tryz.underlying5
 a5:=Tryz.isAgg5
 z5:=Tryz.sizeOf5
 v5:=Tryz.zeroValue5
 t9:=Tryz.underlying9
 a9:=Tryz.isAgg9
 z9:=Tryz.sizeOf9
 v9:=Tryz.zeroValue9
 t20:=Tryz.underlying20
 a20:=Tryz.isAgg20
 z20:=Tryz.sizeOf20
 v20:=Tryz.zeroValue20
 t21:=Tryz.underlying21
 a21:=Tryz.isAgg21
 z21:=Tryz.sizeOf21
 v21:=Tryz.zeroValue21
 t37:=Tryz.underlying22
 a37:=Tryz.isAgg22
 z37:=Tryz.sizeOf22
 v37:=Tryz.zeroValue22
 t46:=Tryz.underlying228
 a46:=Tryz.isAgg228
 z46:=Tryz.sizeOf228
 v46:=Tryz.zeroValue228
 t51:=Tryz.underlying287
 a51:=Tryz.isAgg287
 z51:=Tryz.sizeOf287
 v51:=Tryz.zeroValue287
 t70:=Tryz.underlying70
 a70:=Tryz.isAgg70
 z70:=Tryz.sizeOf70
 v70:=Tryz.zeroValue70
 t72:=Tryz.underlying72
 a72:=Tryz.isAgg72
 z72:=Tryz.sizeOf72
 v72:=Tryz.zeroValue72
 t75:=Tryz.underlying101
 a75:=Tryz.isAgg101
 z75:=Tryz.sizeOf101
 v75:=Tryz.zeroValue101
 t76:=Tryz.underlying102
 a76:=Tryz.isAgg102
 z76:=Tryz.sizeOf102
 v76:=Tryz.zeroValue102
 t105:=Tryz.underlying269
 a105:=Tryz.isAgg269
 z105:=Tryz.sizeOf269
 v105:=Tryz.zeroValue269
 t119:=Tryz.underlying283
 a119:=Tryz.isAgg283
 z119:=Tryz.sizeOf283
 t127:=Tryz.underlying137
 a127:=Tryz.isAgg137
 z127:=Tryz.sizeOf137
 v127:=Tryz.zeroValue137
 t138:=Tryz.underlying285
 a138:=Tryz.isAgg285
 z138:=Tryz.sizeOf285
 v138:=Tryz.zeroValue285
 t139:=Tryz.underlying286
 a139:=Tryz.isAgg286
 z139:=Tryz.sizeOf286
 v139:=Tryz.zeroValue286
 t146:=Tryz.underlying288
 a146:=Tryz.isAgg288
 z146:=Tryz.sizeOf288
 v146:=Tryz.zeroValue288
 t164:=Tryz.underlying205
 a164:=Tryz.isAgg205
 z164:=Tryz.sizeOf205
 v164:=Tryz.zeroValue205
 g1:=by kernel_rfl
 g3:=by kernel_rfl
 g4:=by kernel_rfl }
theorem Builder_Extra_155:Builder.Extra Tryz.prog lays155_ren:={
 sizeBuilder:=by kernel_rfl
 liesBuilder:=by kernel_rfl
 t5:=Tryz.underlying5
 a5:=Tryz.isAgg5
 z5:=Tryz.sizeOf5
 v5:=Tryz.zeroValue5
 infoByte:=by kernel_rfl
 cellsByte:=by kernel_rfl
 sizeByte:=by kernel_rfl
 neB5:=by decide }
open Go.RowKit Go.Lib in
theorem strings_ReplaceAll (s old new:ByteArray) (m:Int) (w:World) (hs:s.size<4294967281) (hm:w.cell? ⟨1,0,none⟩=some (.int .i64 m)) (h1:1<=old.size) (hlen:s.size+Lib.countB s old*new.size<=140737488355328):
  Calls Tryz.prog 232 #[.string s,.string old,.string new] w fun e w'=>e=.returned (.string ⟨(Lib.replaceAll s.data.toList old.data.toList new.data.toList).toArray⟩)/\Below w.heap.size w w':=Any.strings_ReplaceAll lays155 Builder_Extra_155 s old new m w hs hm h1 hlen
end Shelf
namespace Shelf
open Go.Shelf
def laysM143_ren:Go.Shelf.Ren:=⟨fun|143=>246|219=>254|217=>268|225=>269|224=>270|267=>271|266=>275|314=>276|n=>n,fun|9=>9|3=>3|4=>4|5=>5|46=>228|146=>288|51=>287|n=>n,fun|1=>1|n=>n⟩
theorem laysM143:Go.Proofs.LaysM.n143 Tryz.prog laysM143_ren:={
 mixed:=by kernel_rfl
 f143:=Tryz.func246.trans (congrArg some (by kernel_rfl))
 f217:=Tryz.func268.trans (congrArg some (by kernel_rfl))
 f219:=Tryz.func254.trans (congrArg some (by kernel_rfl))
 f224:=Tryz.func270.trans (congrArg some (by kernel_rfl))
 f225:=Tryz.func269.trans (congrArg some (by kernel_rfl))
 f266:=Tryz.func275.trans (congrArg some (by kernel_rfl))
 f267:=Tryz.func271.trans (congrArg some (by kernel_rfl))
 f314:=Tryz.func276.trans (congrArg some (by kernel_rfl))
 t3:=Tryz.underlying3
 a3:=Tryz.isAgg3
 z3:=Tryz.sizeOf3
 v3:=Tryz.zeroValue3
 t4:=Tryz.underlying4
 a4:=Tryz.isAgg4
 z4:=Tryz.sizeOf4
 v4:=Tryz.zeroValue4
 t5:=Tryz.underlying5
 a5:=Tryz.isAgg5
 z5:=Tryz.sizeOf5
 v5:=Tryz.zeroValue5
 t9:=Tryz.underlying9
 a9:=Tryz.isAgg9
 z9:=Tryz.sizeOf9
 v9:=Tryz.zeroValue9
 t46:=Tryz.underlying228
 a46:=Tryz.isAgg228
 z46:=Tryz.sizeOf228
 v46:=Tryz.zeroValue228
 t51:=Tryz.underlying287
 a51:=Tryz.isAgg287
 z51:=Tryz.sizeOf287
 v51:=Tryz.zeroValue287
 t146:=Tryz.underlying288
 a146:=Tryz.isAgg288
 z146:=Tryz.sizeOf288
 v146:=Tryz.zeroValue288
 g1:=by kernel_rfl
 i3:=by kernel_rfl
 i4:=by kernel_rfl
 i5:=by kernel_rfl
 i9:=by kernel_rfl
 i46:=by kernel_rfl
 i51:=by kernel_rfl
 i146:=by kernel_rfl
 m1:=by kernel_rfl
 s1_3:=fun w h=>Go.Proofs.cell_of_shapedOpen_int (zero:=#[.int .i64 0]) (t:=3) h (of_decide_eq_true (by kernel_rfl)) (by kernel_rfl) rfl (by kernel_rfl) (by kernel_rfl) Tryz.underlying3 }
end Shelf
namespace Strs
open Go.RowKit
def Max (w:World):Prop:=∃ m,w.cell? ⟨1,0,none⟩=some (.int .i64 m)
theorem max_of {w:World} (h:w.ShapedOpen Tryz.prog):Max w:=Shelf.laysM143.s1_3 w h
theorem Max.keep {w w':World} (h:Max w) (hb:Below w.heap.size w w'):Max w':=by obtain ⟨m,h⟩:=h;exact ⟨m,cell_keep hb h⟩
theorem rep_any (s old new:ByteArray) (w:World) (h:Max w) (hs:s.size<=1048576) (h1:1<=old.size) (hn:new.size<=2):
  Calls Tryz.prog 232 #[.string s,.string old,.string new] w fun e w'=>e=.returned (.string ⟨(Lib.replaceAll s.data.toList old.data.toList new.data.toList).toArray⟩)/\Below w.heap.size w w':=by
 obtain ⟨m,h⟩:=h;have hc:=Lib.countB_le old h1 s.size s (zL _);have hm:Lib.countB s old*new.size<=s.size*2:=Nat.mul_le_mul hc hn;exact Shelf.strings_ReplaceAll s old new m w (by omega) h h1 (by omega)
end Strs
namespace Shelf
open Go.Shelf
def lays145_ren:Go.Shelf.Ren:=⟨fun|145=>194|220=>229|219=>254|217=>268|225=>269|224=>270|267=>271|266=>275|314=>276|n=>n,fun|9=>9|4=>4|59=>231|3=>3|5=>5|46=>228|146=>288|51=>287|n=>n,fun|1=>1|n=>n⟩
theorem lays145:Go.Proofs.Lays.n145 Tryz.prog lays145_ren:={
 mixed:=by kernel_rfl
 f145:=Tryz.func194.trans (congrArg some (by kernel_rfl))
 f217:=Tryz.func268.trans (congrArg some (by kernel_rfl))
 f219:=Tryz.func254.trans (congrArg some (by kernel_rfl))
 f220:=Tryz.func229.trans (congrArg some (by kernel_rfl))
 f224:=Tryz.func270.trans (congrArg some (by kernel_rfl))
 f225:=Tryz.func269.trans (congrArg some (by kernel_rfl))
 f266:=Tryz.func275.trans (congrArg some (by kernel_rfl))
 f267:=Tryz.func271.trans (congrArg some (by kernel_rfl))
 f314:=Tryz.func276.trans (congrArg some (by kernel_rfl))
 t3:=Tryz.underlying3
 a3:=Tryz.isAgg3
 z3:=Tryz.sizeOf3
 v3:=Tryz.zeroValue3
 t4:=Tryz.underlying4
 a4:=Tryz.isAgg4
 z4:=Tryz.sizeOf4
 v4:=Tryz.zeroValue4
 t5:=Tryz.underlying5
 a5:=Tryz.isAgg5
 z5:=Tryz.sizeOf5
 v5:=Tryz.zeroValue5
 t9:=Tryz.underlying9
 a9:=Tryz.isAgg9
 z9:=Tryz.sizeOf9
 v9:=Tryz.zeroValue9
 t46:=Tryz.underlying228
 a46:=Tryz.isAgg228
 z46:=Tryz.sizeOf228
 v46:=Tryz.zeroValue228
 t51:=Tryz.underlying287
 a51:=Tryz.isAgg287
 z51:=Tryz.sizeOf287
 v51:=Tryz.zeroValue287
 t59:=Tryz.underlying231
 a59:=Tryz.isAgg231
 z59:=Tryz.sizeOf231
 v59:=Tryz.zeroValue231
 t146:=Tryz.underlying288
 a146:=Tryz.isAgg288
 z146:=Tryz.sizeOf288
 v146:=Tryz.zeroValue288
 g1:=by kernel_rfl }
open Go.RowKit Go.Lib in
theorem strings_Cut (s sep:ByteArray) (m:Int) (w:World) (hs:s.size<4294967281) (hm:w.cell? ⟨1,0,none⟩=some (.int .i64 m)):
  Calls Tryz.prog 194 #[.string s,.string sep] w fun e w'=>e=.returned (.tuple #[.string ⟨(Lib.cut s.data.toList sep.data.toList).1.toArray⟩,.string ⟨(Lib.cut s.data.toList sep.data.toList).2.1.toArray⟩,.bool (Lib.cut s.data.toList sep.data.toList).2.2])/\∃ n,w'=w.drewN n:=Any.strings_Cut lays145 s sep m w hs hm
def lays103_ren:Go.Shelf.Ren:=⟨fun|103=>193|210=>228|206=>253|n=>n,fun|9=>9|4=>4|24=>199|3=>3|n=>n,fun|n=>n⟩
theorem lays103:Go.Proofs.Lays.n103 Tryz.prog lays103_ren:={
 mixed:=by kernel_rfl
 f103:=Tryz.func193.trans (congrArg some (by kernel_rfl))
 f206:=Tryz.func253.trans (congrArg some (by kernel_rfl))
 f210:=Tryz.func228.trans (congrArg some (by kernel_rfl))
 t3:=Tryz.underlying3
 a3:=Tryz.isAgg3
 z3:=Tryz.sizeOf3
 v3:=Tryz.zeroValue3
 t4:=Tryz.underlying4
 a4:=Tryz.isAgg4
 z4:=Tryz.sizeOf4
 v4:=Tryz.zeroValue4
 t9:=Tryz.underlying9
 a9:=Tryz.isAgg9
 z9:=Tryz.sizeOf9
 v9:=Tryz.zeroValue9
 t24:=Tryz.underlying199
 a24:=Tryz.isAgg199
 z24:=Tryz.sizeOf199
 v24:=Tryz.zeroValue199 }
open Go.RowKit in
theorem strings_CutPrefix (s p:ByteArray) (w:World):
  Calls Tryz.prog 193 #[.string s,.string p] w fun e w'=>e=.returned (.tuple #[.string ⟨(Lib.trimPrefix s.data.toList p.data.toList).toArray⟩,.bool (Lib.hasPrefix s.data.toList p.data.toList)])/\w'=w:=Any.strings_CutPrefix lays103 s p w
def lays161_ren:Go.Shelf.Ren:=⟨fun|161=>192|231=>224|227=>225|233=>226|235=>227|228=>250|197=>251|151=>252|260=>266|152=>267|137=>273|119=>274|224=>270|225=>269|217=>268|266=>275|n=>n,fun|9=>9|4=>4|3=>3|5=>5|117=>252|116=>251|0=>0|124=>255|105=>269|21=>21|119=>283|46=>228|139=>286|138=>285|n=>n,fun|3=>2|4=>3|n=>n⟩
theorem lays161:Go.Proofs.Lays.n161 Tryz.prog lays161_ren:={
 mixed:=by kernel_rfl
 f119:=Tryz.func274.trans (congrArg some (by kernel_rfl))
 f137:=Tryz.func273.trans (congrArg some (by kernel_rfl))
 f151:=Tryz.func252.trans (congrArg some (by kernel_rfl))
 f152:=Tryz.func267.trans (congrArg some (by kernel_rfl))
 f161:=Tryz.func192.trans (congrArg some (by kernel_rfl))
 f197:=Tryz.func251.trans (congrArg some (by kernel_rfl))
 f217:=Tryz.func268.trans (congrArg some (by kernel_rfl))
 f224:=Tryz.func270.trans (congrArg some (by kernel_rfl))
 f225:=Tryz.func269.trans (congrArg some (by kernel_rfl))
 f227:=Tryz.func225.trans (congrArg some (by kernel_rfl))
 f228:=Tryz.func250.trans (congrArg some (by kernel_rfl))
 f231:=Tryz.func224.trans (congrArg some (by kernel_rfl))
 f233:=Tryz.func226.trans (congrArg some (by kernel_rfl))
 f235:=Tryz.func227.trans (congrArg some (by kernel_rfl))
 f260:=Tryz.func266.trans (congrArg some (by kernel_rfl))
 f266:=Tryz.func275.trans (congrArg some (by kernel_rfl))
 t0:=Tryz.underlying0
 a0:=Tryz.isAgg0
 z0:=Tryz.sizeOf0
 v0:=Tryz.zeroValue0
 t3:=Tryz.underlying3
 a3:=Tryz.isAgg3
 z3:=Tryz.sizeOf3
 v3:=Tryz.zeroValue3
 t4:=Tryz.underlying4
 a4:=Tryz.isAgg4
 z4:=Tryz.sizeOf4
 v4:=Tryz.zeroValue4
 t5:=Tryz.underlying5
 a5:=Tryz.isAgg5
 z5:=Tryz.sizeOf5
 v5:=Tryz.zeroValue5
 t9:=Tryz.underlying9
 a9:=Tryz.isAgg9
 z9:=Tryz.sizeOf9
 v9:=Tryz.zeroValue9
 t21:=Tryz.underlying21
 a21:=Tryz.isAgg21
 z21:=Tryz.sizeOf21
 v21:=Tryz.zeroValue21
 t46:=Tryz.underlying228
 a46:=Tryz.isAgg228
 z46:=Tryz.sizeOf228
 v46:=Tryz.zeroValue228
 t105:=Tryz.underlying269
 a105:=Tryz.isAgg269
 z105:=Tryz.sizeOf269
 v105:=Tryz.zeroValue269
 t116:=Tryz.underlying251
 a116:=Tryz.isAgg251
 z116:=Tryz.sizeOf251
 t117:=Tryz.underlying252
 a117:=Tryz.isAgg252
 z117:=Tryz.sizeOf252
 v117:=Tryz.zeroValue252
 t119:=Tryz.underlying283
 a119:=Tryz.isAgg283
 z119:=Tryz.sizeOf283
 t124:=Tryz.underlying255
 a124:=Tryz.isAgg255
 z124:=Tryz.sizeOf255
 v124:=Tryz.zeroValue255
 t138:=Tryz.underlying285
 a138:=Tryz.isAgg285
 z138:=Tryz.sizeOf285
 v138:=Tryz.zeroValue285
 t139:=Tryz.underlying286
 a139:=Tryz.isAgg286
 z139:=Tryz.sizeOf286
 v139:=Tryz.zeroValue286
 g3:=by kernel_rfl
 g4:=by kernel_rfl }
end Shelf
namespace ImplSkip
open Go.RowKit
open Strs
theorem trim_any (s:ByteArray) (w:World):
  Calls Tryz.prog 192 #[.string s,.string ⟨#[32,10,9]⟩] w fun e w'=>e=.returned (.string ⟨(Lib.trimLeftS s.data.toList [32,10,9]).toArray⟩)/\Below w.heap.size w w':=
 Any.strings_TrimLeft_laid Shelf.lays161 (by kernel_rfl) s ⟨#[32,10,9]⟩ w (by decide) (ascii_of_all (by decide))
def Left (r:Option (List UInt8)) (w:World) (e:Ending) (w':World):Prop:=match r with
 | none=>e=.returned (.tuple #[.string ⟨#[]⟩,.bool false])/\Below w.heap.size w w'
 | some l=>e=.returned (.tuple #[.string ⟨l.toArray⟩,.bool true])/\Below w.heap.size w w'
theorem cutp_any (l:List UInt8) (w:World):
  Calls Tryz.prog 193 #[.string ⟨l.toArray⟩,.string ⟨#[34]⟩] w fun e w'=>e=.returned (.tuple #[.string ⟨(Lib.trimPrefix l [34]).toArray⟩,.bool (Lib.hasPrefix l [34])])/\w'=w:=Shelf.strings_CutPrefix ⟨l.toArray⟩ ⟨#[34]⟩ w
theorem cut_any (l:List UInt8) (w:World) (hM:Max w) (hl:l.length<=1048576):
  Calls Tryz.prog 194 #[.string ⟨l.toArray⟩,.string ⟨#[34]⟩] w fun e w'=>e=.returned (.tuple #[.string ⟨(Lib.cut l [34]).1.toArray⟩,.string ⟨(Lib.cut l [34]).2.1.toArray⟩,.bool (Lib.cut l [34]).2.2])/\Below w.heap.size w w':=by
 obtain ⟨m,hm⟩:=hM;refine (Shelf.strings_Cut ⟨l.toArray⟩ ⟨#[34]⟩ m w (by rw[<-Tok.zaa];show l.length<_;omega) hm).mono ?_;rintro e w' ⟨h,n,rfl⟩;exact ⟨h,below_drewN (zB _ _) n⟩
def strLen (v:Value):Nat:=match v with|.string b=>b.size|_=>0
theorem strLen_mk (l:List UInt8):strLen (.string ⟨l.toArray⟩)=l.length:=by
 show (⟨l.toArray⟩:ByteArray).size=_
 rw[<-Tok.zaa]
theorem skip_more (f:Nat) (l:List UInt8) (h1:Lib.hasPrefix (Lib.trimLeftS l [32,10,9]) [34]=true) (h2:(Lib.cut (Lib.trimPrefix (Lib.trimLeftS l [32,10,9]) [34]) [34]).2.2=true):
  Tok.skip (f+1) l=Tok.skip f (Lib.cut (Lib.trimPrefix (Lib.trimLeftS l [32,10,9]) [34]) [34]).2.1/\(Lib.cut (Lib.trimPrefix (Lib.trimLeftS l [32,10,9]) [34]) [34]).2.1.length<l.length:=by
 constructor
 ·rw[Tok.skip];simp only[if_pos h1,if_pos h2]
 ·have h3:(Lib.trimLeftS l [32,10,9]).length<=l.length:=by
   unfold Lib.trimLeftS;exact (List.dropWhile_sublist _).length_le
  generalize Lib.trimLeftS l [32,10,9]=m at *;have h4:Lib.trimPrefix m [34]=m.drop 1:=by unfold Lib.trimPrefix;rw[if_pos h1];rfl
  rw[h4] at h2 ⊢
  have h5:0<m.length:=by
   cases m with
   | nil=>exact absurd h1 (by decide)
   | cons c m=>simp
  rw[Tok.cut_one] at h2 ⊢
  split
  ·show ((m.drop 1).drop _).length<_
   rw[List.length_drop,List.length_drop];omega
  ·next h=>rw[if_neg h] at h2;cases h2
theorem skip_any (s:ByteArray) (w:World) (hM:Max w) (hs:s.size<=1048576):
  Calls Tryz.prog 162 #[.string s] w (Left (Tok.skip (s.size+1) s.data.toList) w):=by
 have hsl:=Tok.zaa s;go_enter Tryz.func162,Tryz.ntmps162;go_wp2_with fail
 go_loopw [0] (fun v wr=>∃ (f:Nat) (l:List UInt8),v=.string ⟨l.toArray⟩/\l.length<=s.size/\l.length<f/\Tok.skip (s.size+1) s.data.toList=Tok.skip f l/\Below w.heap.size w wr) (fun v _=>strLen v)
 case atStart=>exact ⟨s.size+1,s.data.toList,rfl,by omega,by omega,rfl,zB _ _⟩
 case round=>
  obtain ⟨f,l,rfl,hl,hf,hk,hbw⟩:=hrel;have HK:=zH hk;clear hk;obtain ⟨f,rfl⟩:∃ g,f=g+1:=⟨f-1,by have:=HK;omega⟩
  have HM:=zH (hM.keep hbw);have KT:∀ w,Hid (Calls Tryz.prog 192 #[.string ⟨l.toArray⟩,.string ⟨#[32,10,9]⟩] w fun e w'=>e=.returned (.string ⟨(Lib.trimLeftS l [32,10,9]).toArray⟩)/\Below w.heap.size w w'):=fun w=>trim_any ⟨l.toArray⟩ w
  have HS:Hid (Tok.skip (f+1) l=(if Lib.hasPrefix (Lib.trimLeftS l [32,10,9]) [34]=true then (if (Lib.cut (Lib.trimPrefix (Lib.trimLeftS l [32,10,9]) [34]) [34]).2.2=true then Tok.skip f (Lib.cut (Lib.trimPrefix (Lib.trimLeftS l [32,10,9]) [34]) [34]).2.1 else none) else some (Lib.trimLeftS l [32,10,9]))):=rfl
  have HQ:=fun h1 h2=>zH (skip_more f l h1 h2)
  have hml:(Lib.trimPrefix (Lib.trimLeftS l [32,10,9]) [34]).length<=1048576:=by
   have h1:(Lib.trimLeftS l [32,10,9]).length<=l.length:=by unfold Lib.trimLeftS;exact (List.dropWhile_sublist _).length_le
   have h2:(Lib.trimPrefix (Lib.trimLeftS l [32,10,9]) [34]).length<=(Lib.trimLeftS l [32,10,9]).length:=by
    unfold Lib.trimPrefix
    split
    ·rw[List.length_drop];omega
    ·exact zL _
   omega
  generalize Lib.trimLeftS l [32,10,9]=m at *;have KP:=fun w=>zH (cutp_any m w)
  cases h1:Lib.hasPrefix m [34] with
  | false=>
   have HR:Hid (Tok.skip (s.size+1) s.data.toList=some m):=by show _=_;rw[HK.out,HS.out,h1];rfl
   rw[h1] at KP;clear h1 HS HQ HK;go_wp2_with fail
   refine (KT _).out.mono ?_;rintro e w1 ⟨rfl,hb1⟩;have HB1:=hbw.trans (hb1.mono hbw.size);go_wp2_with fail
   refine (KP _).out.mono ?_;rintro e w2 ⟨rfl,rfl⟩;go_wp2_with fail
   go_ret2
   rw[HR.out];exact ⟨rfl,HB1⟩
  | true=>
   rw[h1] at KP;have KC:=fun w h=>zH (cut_any (Lib.trimPrefix m [34]) w h hml)
   generalize Lib.trimPrefix m [34]=c at *;cases h2:(Lib.cut c [34]).2.2 with
   | false=>
    have HR:Hid (Tok.skip (s.size+1) s.data.toList=none):=by show _=_;rw[HK.out,HS.out,if_pos h1,h2];rfl
    rw[h2] at KC;clear h1 h2 HS HQ HK;generalize (Lib.cut c [34]).1=c1 at *;generalize (Lib.cut c [34]).2.1=c2 at *;go_wp2_with fail
    refine (KT _).out.mono ?_;rintro e w1 ⟨rfl,hb1⟩;have HB1:=hbw.trans (hb1.mono hbw.size);have HM1:=zH (HM.out.keep hb1);go_wp2_with fail
    refine (KP _).out.mono ?_;rintro e w2 ⟨rfl,rfl⟩;go_wp2_with fail
    refine (KC _ HM1.out).out.mono ?_;rintro e w3 ⟨rfl,hb3⟩;have HB3:=HB1.trans (hb3.mono HB1.size);go_wp2_with fail
    go_ret2
    rw[HR.out];exact ⟨rfl,HB3⟩
   | true=>
    have HR:=HQ h1 h2;rw[h2] at KC;clear h1 h2 HS HQ;generalize (Lib.cut c [34]).1=c1 at *;generalize (Lib.cut c [34]).2.1=c2 at *;go_wp2_with fail
    refine (KT _).out.mono ?_;rintro e w1 ⟨rfl,hb1⟩;have HB1:=hbw.trans (hb1.mono hbw.size);have HM1:=zH (HM.out.keep hb1);go_wp2_with fail
    refine (KP _).out.mono ?_;rintro e w2 ⟨rfl,rfl⟩;go_wp2_with fail
    refine (KC _ HM1.out).out.mono ?_;rintro e w3 ⟨rfl,hb3⟩;have HB3:=HB1.trans (hb3.mono HB1.size);go_wp2_with fail
    go_roundw
    case rel=>exact ⟨f,c2,rfl,by have:=HR.out.2;omega,by have:=HR.out.2;omega,HK.out.trans HR.out.1,HB3⟩
    case measure=>have:=HR.out.2;simp[strLen_mk];omega
end ImplSkip
end Go.Proofs.YtbigfeblomfflaaGreatDoor
