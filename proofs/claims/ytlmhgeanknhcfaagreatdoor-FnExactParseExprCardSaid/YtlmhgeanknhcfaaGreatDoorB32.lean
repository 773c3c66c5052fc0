/-
  Max CutTrim ImplSkip
-/
import Derived.Test.YtlmhgeanknhcfaaGreatDoorB36
import Derived.Shelf.Strings.Replace
import Derived.Shelf.LaysM
import Derived.Shelf.Strings.Cut
import Derived.Shelf.Strings.SlTrimAscii
set_option maxHeartbeats 1000000
set_option maxRecDepth 10000
namespace Go.Proofs.YtlmhgeanknhcfaaGreatDoor
namespace Shelf
open Go.Shelf
def zpi:Go.Shelf.Ren:=⟨fun|155=>189|154=>206|138=>176|165=>214|143=>198|166=>215|197=>201|169=>216|195=>196|218=>197|240=>221|241=>222|219=>204|260=>208|276=>223|277=>224|217=>210|225=>211|224=>212|267=>213|266=>219|314=>220|n=>n,fun|9=>9|3=>3|4=>4|72=>211|0=>0|76=>213|105=>201|21=>21|5=>5|70=>209|20=>20|37=>153|75=>81|127=>223|164=>224|46=>208|119=>216|139=>219|138=>218|146=>221|51=>220|80=>215|n=>n,fun|1=>1|3=>2|4=>3|n=>n⟩
theorem yam:Go.Proofs.Lays.n155 Tryz.prog zpi:={
 mixed:=by kernel_rfl
 f138:=Tryz.func176.trans (congrArg some (by kernel_rfl))
 f143:=Tryz.func198.trans (congrArg some (by kernel_rfl))
 f154:=Tryz.func206.trans (congrArg some (by kernel_rfl))
 f155:=Tryz.func189.trans (congrArg some (by kernel_rfl))
 f165:=Tryz.func214.trans (congrArg some (by kernel_rfl))
 f166:=Tryz.func215.trans (congrArg some (by kernel_rfl))
 f169:=Tryz.func216.trans (congrArg some (by kernel_rfl))
 f195:=Tryz.func196.trans (congrArg some (by kernel_rfl))
 f197:=Tryz.func201.trans (congrArg some (by kernel_rfl))
 f217:=Tryz.func210.trans (congrArg some (by kernel_rfl))
 f218:=Tryz.func197.trans (congrArg some (by kernel_rfl))
 f219:=Tryz.func204.trans (congrArg some (by kernel_rfl))
 f224:=Tryz.func212.trans (congrArg some (by kernel_rfl))
 f225:=Tryz.func211.trans (congrArg some (by kernel_rfl))
 f240:=Tryz.func221.trans (congrArg some (by kernel_rfl))
 f241:=Tryz.func222.trans (congrArg some (by kernel_rfl))
 f260:=Tryz.func208.trans (congrArg some (by kernel_rfl))
 f266:=Tryz.func219.trans (congrArg some (by kernel_rfl))
 f267:=Tryz.func213.trans (congrArg some (by kernel_rfl))
 f276:=Tryz.func223.trans (congrArg some (by kernel_rfl))
 f277:=Tryz.func224.trans (congrArg some (by kernel_rfl))
 f314:=Tryz.func220.trans (congrArg some (by kernel_rfl))
 t0:=Tryz.underlying0
 a0:=Tryz.isAgg0
 z0:=Tryz.sizeOf0
 v0:=Tryz.zeroValue0
 t3:=Tryz.underlying3
 a3:=Tryz.isAgg3
 z3:=Tryz.sizeOf3
 v3:=Tryz.zeroValue3
 t4:=Tryz.underlying4
 a4:=Tryz.isAgg4
 z4:=Tryz.sizeOf4
 v4:=Tryz.zeroValue4
 t5:=Tryz.underlying5
 a5:=Tryz.isAgg5
 z5:=Tryz.sizeOf5
 v5:=Tryz.zeroValue5
 t9:=Tryz.underlying9
 a9:=Tryz.isAgg9
 z9:=Tryz.sizeOf9
 v9:=Tryz.zeroValue9
 t20:=Tryz.underlying20
 a20:=Tryz.isAgg20
 z20:=Tryz.sizeOf20
 v20:=Tryz.zeroValue20
 t21:=Tryz.underlying21
 a21:=Tryz.isAgg21
 z21:=Tryz.sizeOf21
 v21:=Tryz.zeroValue21
 t37:=Tryz.underlying153
 a37:=Tryz.isAgg153
 z37:=Tryz.sizeOf153
 v37:=Tryz.zeroValue153
 t46:=Tryz.underlying208
 a46:=Tryz.isAgg208
 z46:=Tryz.sizeOf208
 v46:=Tryz.zeroValue208
 t51:=Tryz.underlying220
 a51:=Tryz.isAgg220
 z51:=Tryz.sizeOf220
 v51:=Tryz.zeroValue220
 t70:=Tryz.underlying209
 a70:=Tryz.isAgg209
 z70:=Tryz.sizeOf209
 v70:=Tryz.zeroValue209
 t72:=Tryz.underlying211
 a72:=Tryz.isAgg211
 z72:=Tryz.sizeOf211
 v72:=Tryz.zeroValue211
 t75:=Tryz.underlying81
 a75:=Tryz.isAgg81
 z75:=Tryz.sizeOf81
 v75:=Tryz.zeroValue81
 t76:=Tryz.underlying213
 a76:=Tryz.isAgg213
 z76:=Tryz.sizeOf213
 v76:=Tryz.zeroValue213
 t105:=Tryz.underlying201
 a105:=Tryz.isAgg201
 z105:=Tryz.sizeOf201
 v105:=Tryz.zeroValue201
 t119:=Tryz.underlying216
 a119:=Tryz.isAgg216
 z119:=Tryz.sizeOf216
 t127:=Tryz.underlying223
 a127:=Tryz.isAgg223
 z127:=Tryz.sizeOf223
 v127:=Tryz.zeroValue223
 t138:=Tryz.underlying218
 a138:=Tryz.isAgg218
 z138:=Tryz.sizeOf218
 v138:=Tryz.zeroValue218
 t139:=Tryz.underlying219
 a139:=Tryz.isAgg219
 z139:=Tryz.sizeOf219
 v139:=Tryz.zeroValue219
 t146:=Tryz.underlying221
 a146:=Tryz.isAgg221
 z146:=Tryz.sizeOf221
 v146:=Tryz.zeroValue221
 t164:=Tryz.underlying224
 a164:=Tryz.isAgg224
 z164:=Tryz.sizeOf224
 v164:=Tryz.zeroValue224
 g1:=by kernel_rfl
 g3:=by kernel_rfl
 g4:=by kernel_rfl }
theorem zna:Builder.Extra Tryz.prog zpi:={
 sizeBuilder:=by kernel_rfl
 liesBuilder:=by kernel_rfl
 t5:=Tryz.underlying5
 a5:=Tryz.isAgg5
 z5:=Tryz.sizeOf5
 v5:=Tryz.zeroValue5
 infoByte:=by kernel_rfl
 cellsByte:=by kernel_rfl
 sizeByte:=by kernel_rfl
 neB5:=by decide }
open Go.RowKit Go.Lib in
theorem strings_ReplaceAll (s old new:ByteArray) (m:Int) (w:World) (hs:s.size<4294967281) (hm:w.cell? ⟨1,0,none⟩=some (.int .i64 m)) (h1:1<=old.size) (hlen:s.size+Lib.countB s old*new.size<=140737488355328):
  Calls Tryz.prog 189 #[.string s,.string old,.string new] w fun e w'=>e=.returned (.string ⟨(Lib.replaceAll s.data.toList old.data.toList new.data.toList).toArray⟩)/\Below w.heap.size w w':=Any.strings_ReplaceAll yam zna s old new m w hs hm h1 hlen
end Shelf
namespace Shelf
open Go.Shelf
def zu1:Go.Shelf.Ren:=⟨fun|143=>198|219=>204|217=>210|225=>211|224=>212|267=>213|266=>219|314=>220|n=>n,fun|9=>9|3=>3|4=>4|5=>5|46=>208|146=>221|51=>220|n=>n,fun|1=>1|n=>n⟩
theorem z8a:Go.Proofs.LaysM.n143 Tryz.prog zu1:={
 mixed:=by kernel_rfl
 f143:=Tryz.func198.trans (congrArg some (by kernel_rfl))
 f217:=Tryz.func210.trans (congrArg some (by kernel_rfl))
 f219:=Tryz.func204.trans (congrArg some (by kernel_rfl))
 f224:=Tryz.func212.trans (congrArg some (by kernel_rfl))
 f225:=Tryz.func211.trans (congrArg some (by kernel_rfl))
 f266:=Tryz.func219.trans (congrArg some (by kernel_rfl))
 f267:=Tryz.func213.trans (congrArg some (by kernel_rfl))
 f314:=Tryz.func220.trans (congrArg some (by kernel_rfl))
 t3:=Tryz.underlying3
 a3:=Tryz.isAgg3
 z3:=Tryz.sizeOf3
 v3:=Tryz.zeroValue3
 t4:=Tryz.underlying4
 a4:=Tryz.isAgg4
 z4:=Tryz.sizeOf4
 v4:=Tryz.zeroValue4
 t5:=Tryz.underlying5
 a5:=Tryz.isAgg5
 z5:=Tryz.sizeOf5
 v5:=Tryz.zeroValue5
 t9:=Tryz.underlying9
 a9:=Tryz.isAgg9
 z9:=Tryz.sizeOf9
 v9:=Tryz.zeroValue9
 t46:=Tryz.underlying208
 a46:=Tryz.isAgg208
 z46:=Tryz.sizeOf208
 v46:=Tryz.zeroValue208
 t51:=Tryz.underlying220
 a51:=Tryz.isAgg220
 z51:=Tryz.sizeOf220
 v51:=Tryz.zeroValue220
 t146:=Tryz.underlying221
 a146:=Tryz.isAgg221
 z146:=Tryz.sizeOf221
 v146:=Tryz.zeroValue221
 g1:=by kernel_rfl
 i3:=by kernel_rfl
 i4:=by kernel_rfl
 i5:=by kernel_rfl
 i9:=by kernel_rfl
 i46:=by kernel_rfl
 i51:=by kernel_rfl
 i146:=by kernel_rfl
 m1:=by kernel_rfl
 s1_3:=fun w h=>Go.Proofs.cell_of_shapedOpen_int (zero:=#[.int .i64 0]) (t:=3) h (of_decide_eq_true (by kernel_rfl)) (by kernel_rfl) rfl (by kernel_rfl) (by kernel_rfl) Tryz.underlying3 }
end Shelf
namespace Strs
open Go.RowKit
def Max (w:World):Prop:=∃ m,w.cell? ⟨1,0,none⟩=some (.int .i64 m)
theorem z2o {w:World} (h:w.ShapedOpen Tryz.prog):Max w:=Shelf.z8a.s1_3 w h
theorem Max.keep {w w':World} (h:Max w) (hb:Below w.heap.size w w'):Max w':=by obtain ⟨m,h⟩:=h;exact ⟨m,cell_keep hb h⟩
theorem ycj (s old new:ByteArray) (w:World) (h:Max w) (hs:s.size<=1048576) (h1:1<=old.size) (hn:new.size<=2):
  Calls Tryz.prog 189 #[.string s,.string old,.string new] w fun e w'=>e=.returned (.string ⟨(Lib.replaceAll s.data.toList old.data.toList new.data.toList).toArray⟩)/\Below w.heap.size w w':=by
 obtain ⟨m,h⟩:=h;have hc:=Lib.countB_le old h1 s.size s (zL _);have hm:Lib.countB s old*new.size<=s.size*2:=Nat.mul_le_mul hc hn;exact Shelf.strings_ReplaceAll s old new m w (by omega) h h1 (by omega)
end Strs
namespace Shelf
open Go.Shelf
def zw7:Go.Shelf.Ren:=⟨fun|145=>154|220=>185|219=>204|217=>210|225=>211|224=>212|267=>213|266=>219|314=>220|n=>n,fun|9=>9|4=>4|59=>181|3=>3|5=>5|46=>208|146=>221|51=>220|n=>n,fun|1=>1|n=>n⟩
theorem yco:Go.Proofs.Lays.n145 Tryz.prog zw7:={
 mixed:=by kernel_rfl
 f145:=Tryz.func154.trans (congrArg some (by kernel_rfl))
 f217:=Tryz.func210.trans (congrArg some (by kernel_rfl))
 f219:=Tryz.func204.trans (congrArg some (by kernel_rfl))
 f220:=Tryz.func185.trans (congrArg some (by kernel_rfl))
 f224:=Tryz.func212.trans (congrArg some (by kernel_rfl))
 f225:=Tryz.func211.trans (congrArg some (by kernel_rfl))
 f266:=Tryz.func219.trans (congrArg some (by kernel_rfl))
 f267:=Tryz.func213.trans (congrArg some (by kernel_rfl))
 f314:=Tryz.func220.trans (congrArg some (by kernel_rfl))
 t3:=Tryz.underlying3
 a3:=Tryz.isAgg3
 z3:=Tryz.sizeOf3
 v3:=Tryz.zeroValue3
 t4:=Tryz.underlying4
 a4:=Tryz.isAgg4
 z4:=Tryz.sizeOf4
 v4:=Tryz.zeroValue4
 t5:=Tryz.underlying5
 a5:=Tryz.isAgg5
 z5:=Tryz.sizeOf5
 v5:=Tryz.zeroValue5
 t9:=Tryz.underlying9
 a9:=Tryz.isAgg9
 z9:=Tryz.sizeOf9
 v9:=Tryz.zeroValue9
 t46:=Tryz.underlying208
 a46:=Tryz.isAgg208
 z46:=Tryz.sizeOf208
 v46:=Tryz.zeroValue208
 t51:=Tryz.underlying220
 a51:=Tryz.isAgg220
 z51:=Tryz.sizeOf220
 v51:=Tryz.zeroValue220
 t59:=Tryz.underlying181
 a59:=Tryz.isAgg181
 z59:=Tryz.sizeOf181
 v59:=Tryz.zeroValue181
 t146:=Tryz.underlying221
 a146:=Tryz.isAgg221
 z146:=Tryz.sizeOf221
 v146:=Tryz.zeroValue221
 g1:=by kernel_rfl }
open Go.RowKit Go.Lib in
theorem strings_Cut (s sep:ByteArray) (m:Int) (w:World) (hs:s.size<4294967281) (hm:w.cell? ⟨1,0,none⟩=some (.int .i64 m)):
  Calls Tryz.prog 154 #[.string s,.string sep] w fun e w'=>e=.returned (.tuple #[.string ⟨(Lib.cut s.data.toList sep.data.toList).1.toArray⟩,.string ⟨(Lib.cut s.data.toList sep.data.toList).2.1.toArray⟩,.bool (Lib.cut s.data.toList sep.data.toList).2.2])/\∃ n,w'=w.drewN n:=Any.strings_Cut yco s sep m w hs hm
def zwr:Go.Shelf.Ren:=⟨fun|103=>153|210=>184|206=>203|n=>n,fun|9=>9|4=>4|24=>141|3=>3|n=>n,fun|n=>n⟩
theorem ybd:Go.Proofs.Lays.n103 Tryz.prog zwr:={
 mixed:=by kernel_rfl
 f103:=Tryz.func153.trans (congrArg some (by kernel_rfl))
 f206:=Tryz.func203.trans (congrArg some (by kernel_rfl))
 f210:=Tryz.func184.trans (congrArg some (by kernel_rfl))
 t3:=Tryz.underlying3
 a3:=Tryz.isAgg3
 z3:=Tryz.sizeOf3
 v3:=Tryz.zeroValue3
 t4:=Tryz.underlying4
 a4:=Tryz.isAgg4
 z4:=Tryz.sizeOf4
 v4:=Tryz.zeroValue4
 t9:=Tryz.underlying9
 a9:=Tryz.isAgg9
 z9:=Tryz.sizeOf9
 v9:=Tryz.zeroValue9
 t24:=Tryz.underlying141
 a24:=Tryz.isAgg141
 z24:=Tryz.sizeOf141
 v24:=Tryz.zeroValue141 }
open Go.RowKit in
theorem strings_CutPrefix (s p:ByteArray) (w:World):
  Calls Tryz.prog 153 #[.string s,.string p] w fun e w'=>e=.returned (.tuple #[.string ⟨(Lib.trimPrefix s.data.toList p.data.toList).toArray⟩,.bool (Lib.hasPrefix s.data.toList p.data.toList)])/\w'=w:=Any.strings_CutPrefix ybd s p w
def zxq:Go.Shelf.Ren:=⟨fun|161=>152|231=>180|227=>181|233=>182|235=>183|228=>200|197=>201|151=>202|260=>208|152=>209|137=>217|119=>218|224=>212|225=>211|217=>210|266=>219|n=>n,fun|9=>9|4=>4|3=>3|5=>5|117=>191|116=>190|0=>0|124=>194|105=>201|21=>21|119=>216|46=>208|139=>219|138=>218|n=>n,fun|3=>2|4=>3|n=>n⟩
theorem ybt:Go.Proofs.Lays.n161 Tryz.prog zxq:={
 mixed:=by kernel_rfl
 f119:=Tryz.func218.trans (congrArg some (by kernel_rfl))
 f137:=Tryz.func217.trans (congrArg some (by kernel_rfl))
 f151:=Tryz.func202.trans (congrArg some (by kernel_rfl))
 f152:=Tryz.func209.trans (congrArg some (by kernel_rfl))
 f161:=Tryz.func152.trans (congrArg some (by kernel_rfl))
 f197:=Tryz.func201.trans (congrArg some (by kernel_rfl))
 f217:=Tryz.func210.trans (congrArg some (by kernel_rfl))
 f224:=Tryz.func212.trans (congrArg some (by kernel_rfl))
 f225:=Tryz.func211.trans (congrArg some (by kernel_rfl))
 f227:=Tryz.func181.trans (congrArg some (by kernel_rfl))
 f228:=Tryz.func200.trans (congrArg some (by kernel_rfl))
 f231:=Tryz.func180.trans (congrArg some (by kernel_rfl))
 f233:=Tryz.func182.trans (congrArg some (by kernel_rfl))
 f235:=Tryz.func183.trans (congrArg some (by kernel_rfl))
 f260:=Tryz.func208.trans (congrArg some (by kernel_rfl))
 f266:=Tryz.func219.trans (congrArg some (by kernel_rfl))
 t0:=Tryz.underlying0
 a0:=Tryz.isAgg0
 z0:=Tryz.sizeOf0
 v0:=Tryz.zeroValue0
 t3:=Tryz.underlying3
 a3:=Tryz.isAgg3
 z3:=Tryz.sizeOf3
 v3:=Tryz.zeroValue3
 t4:=Tryz.underlying4
 a4:=Tryz.isAgg4
 z4:=Tryz.sizeOf4
 v4:=Tryz.zeroValue4
 t5:=Tryz.underlying5
 a5:=Tryz.isAgg5
 z5:=Tryz.sizeOf5
 v5:=Tryz.zeroValue5
 t9:=Tryz.underlying9
 a9:=Tryz.isAgg9
 z9:=Tryz.sizeOf9
 v9:=Tryz.zeroValue9
 t21:=Tryz.underlying21
 a21:=Tryz.isAgg21
 z21:=Tryz.sizeOf21
 v21:=Tryz.zeroValue21
 t46:=Tryz.underlying208
 a46:=Tryz.isAgg208
 z46:=Tryz.sizeOf208
 v46:=Tryz.zeroValue208
 t105:=Tryz.underlying201
 a105:=Tryz.isAgg201
 z105:=Tryz.sizeOf201
 v105:=Tryz.zeroValue201
 t116:=Tryz.underlying190
 a116:=Tryz.isAgg190
 z116:=Tryz.sizeOf190
 t117:=Tryz.underlying191
 a117:=Tryz.isAgg191
 z117:=Tryz.sizeOf191
 v117:=Tryz.zeroValue191
 t119:=Tryz.underlying216
 a119:=Tryz.isAgg216
 z119:=Tryz.sizeOf216
 t124:=Tryz.underlying194
 a124:=Tryz.isAgg194
 z124:=Tryz.sizeOf194
 v124:=Tryz.zeroValue194
 t138:=Tryz.underlying218
 a138:=Tryz.isAgg218
 z138:=Tryz.sizeOf218
 v138:=Tryz.zeroValue218
 t139:=Tryz.underlying219
 a139:=Tryz.isAgg219
 z139:=Tryz.sizeOf219
 v139:=Tryz.zeroValue219
 g3:=by kernel_rfl
 g4:=by kernel_rfl }
end Shelf
namespace ImplSkip
open Go.RowKit
open Strs
theorem z8q (s:ByteArray) (w:World):
  Calls Tryz.prog 152 #[.string s,.string ⟨#[32,10,9]⟩] w fun e w'=>e=.returned (.string ⟨(Lib.trimLeftS s.data.toList [32,10,9]).toArray⟩)/\Below w.heap.size w w':=
 Any.strings_TrimLeft_laid Shelf.ybt (by kernel_rfl) s ⟨#[32,10,9]⟩ w (by decide) (ascii_of_all (by decide))
def Left (r:Option (List UInt8)) (w:World) (e:Ending) (w':World):Prop:=match r with
 | none=>e=.returned (.tuple #[.string ⟨#[]⟩,.bool false])/\Below w.heap.size w w'
 | some l=>e=.returned (.tuple #[.string ⟨l.toArray⟩,.bool true])/\Below w.heap.size w w'
theorem z7x (l:List UInt8) (w:World):
  Calls Tryz.prog 153 #[.string ⟨l.toArray⟩,.string ⟨#[34]⟩] w fun e w'=>e=.returned (.tuple #[.string ⟨(Lib.trimPrefix l [34]).toArray⟩,.bool (Lib.hasPrefix l [34])])/\w'=w:=Shelf.strings_CutPrefix ⟨l.toArray⟩ ⟨#[34]⟩ w
theorem ycx (l:List UInt8) (w:World) (hM:Max w) (hl:l.length<=1048576):
  Calls Tryz.prog 154 #[.string ⟨l.toArray⟩,.string ⟨#[34]⟩] w fun e w'=>e=.returned (.tuple #[.string ⟨(Lib.cut l [34]).1.toArray⟩,.string ⟨(Lib.cut l [34]).2.1.toArray⟩,.bool (Lib.cut l [34]).2.2])/\Below w.heap.size w w':=by
 obtain ⟨m,hm⟩:=hM;refine (Shelf.strings_Cut ⟨l.toArray⟩ ⟨#[34]⟩ m w (by rw[<-Tok.zaj];show l.length<_;omega) hm).mono ?_;rintro e w' ⟨h,n,rfl⟩;exact ⟨h,below_drewN (zB _ _) n⟩
def zvf (v:Value):Nat:=match v with|.string b=>b.size|_=>0
theorem z1x (l:List UInt8):zvf (.string ⟨l.toArray⟩)=l.length:=by
 show (⟨l.toArray⟩:ByteArray).size=_
 rw[<-Tok.zaj]
theorem z1o (f:Nat) (l:List UInt8) (h1:Lib.hasPrefix (Lib.trimLeftS l [32,10,9]) [34]=true) (h2:(Lib.cut (Lib.trimPrefix (Lib.trimLeftS l [32,10,9]) [34]) [34]).2.2=true):
  Tok.skip (f+1) l=Tok.skip f (Lib.cut (Lib.trimPrefix (Lib.trimLeftS l [32,10,9]) [34]) [34]).2.1/\(Lib.cut (Lib.trimPrefix (Lib.trimLeftS l [32,10,9]) [34]) [34]).2.1.length<l.length:=by
 constructor
 ·rw[Tok.skip];simp only[if_pos h1,if_pos h2]
 ·have h3:(Lib.trimLeftS l [32,10,9]).length<=l.length:=by
   unfold Lib.trimLeftS;exact (List.dropWhile_sublist _).length_le
  generalize Lib.trimLeftS l [32,10,9]=m at *;have h4:Lib.trimPrefix m [34]=m.drop 1:=by unfold Lib.trimPrefix;rw[if_pos h1];rfl
  rw[h4] at h2 ⊢
  have h5:0<m.length:=by
   cases m with
   | nil=>exact absurd h1 (by decide)
   | cons c m=>simp
  rw[Tok.z5u] at h2 ⊢
  split
  ·show ((m.drop 1).drop _).length<_
   rw[List.length_drop,List.length_drop];omega
  ·next h=>rw[if_neg h] at h2;cases h2
theorem z9t (s:ByteArray) (w:World) (hM:Max w) (hs:s.size<=1048576):
  Calls Tryz.prog 122 #[.string s] w (Left (Tok.skip (s.size+1) s.data.toList) w):=by
 have hsl:=Tok.zaj s;go_enter Tryz.func122,Tryz.ntmps122;go_wp2_with fail
 go_loopw [0] (fun v wr=>∃ (f:Nat) (l:List UInt8),v=.string ⟨l.toArray⟩/\l.length<=s.size/\l.length<f/\Tok.skip (s.size+1) s.data.toList=Tok.skip f l/\Below w.heap.size w wr) (fun v _=>zvf v)
 case atStart=>exact ⟨s.size+1,s.data.toList,rfl,by omega,by omega,rfl,zB _ _⟩
 case round=>
  obtain ⟨f,l,rfl,hl,hf,hk,hbw⟩:=hrel;have HK:=zH hk;clear hk;obtain ⟨f,rfl⟩:∃ g,f=g+1:=⟨f-1,by have:=HK;omega⟩
  have HM:=zH (hM.keep hbw);have KT:∀ w,Hid (Calls Tryz.prog 152 #[.string ⟨l.toArray⟩,.string ⟨#[32,10,9]⟩] w fun e w'=>e=.returned (.string ⟨(Lib.trimLeftS l [32,10,9]).toArray⟩)/\Below w.heap.size w w'):=fun w=>z8q ⟨l.toArray⟩ w
  have HS:Hid (Tok.skip (f+1) l=(if Lib.hasPrefix (Lib.trimLeftS l [32,10,9]) [34]=true then (if (Lib.cut (Lib.trimPrefix (Lib.trimLeftS l [32,10,9]) [34]) [34]).2.2=true then Tok.skip f (Lib.cut (Lib.trimPrefix (Lib.trimLeftS l [32,10,9]) [34]) [34]).2.1 else none) else some (Lib.trimLeftS l [32,10,9]))):=rfl
  have HQ:=fun h1 h2=>zH (z1o f l h1 h2)
  have hml:(Lib.trimPrefix (Lib.trimLeftS l [32,10,9]) [34]).length<=1048576:=by
   have h1:(Lib.trimLeftS l [32,10,9]).length<=l.length:=by unfold Lib.trimLeftS;exact (List.dropWhile_sublist _).length_le
   have h2:(Lib.trimPrefix (Lib.trimLeftS l [32,10,9]) [34]).length<=(Lib.trimLeftS l [32,10,9]).length:=by
    unfold Lib.trimPrefix
    split
    ·rw[List.length_drop];omega
    ·exact zL _
   omega
  generalize Lib.trimLeftS l [32,10,9]=m at *;have KP:=fun w=>zH (z7x m w)
  cases h1:Lib.hasPrefix m [34] with
  | false=>
   have HR:Hid (Tok.skip (s.size+1) s.data.toList=some m):=by show _=_;rw[HK.out,HS.out,h1];rfl
   rw[h1] at KP;clear h1 HS HQ HK;go_wp2_with fail
   refine (KT _).out.mono ?_;rintro e w1 ⟨rfl,hb1⟩;have HB1:=hbw.trans (hb1.mono hbw.size);go_wp2_with fail
   refine (KP _).out.mono ?_;rintro e w2 ⟨rfl,rfl⟩;go_wp2_with fail
   go_ret2
   rw[HR.out];exact ⟨rfl,HB1⟩
  | true=>
   rw[h1] at KP;have KC:=fun w h=>zH (ycx (Lib.trimPrefix m [34]) w h hml)
   generalize Lib.trimPrefix m [34]=c at *;cases h2:(Lib.cut c [34]).2.2 with
   | false=>
    have HR:Hid (Tok.skip (s.size+1) s.data.toList=none):=by show _=_;rw[HK.out,HS.out,if_pos h1,h2];rfl
    rw[h2] at KC;clear h1 h2 HS HQ HK;generalize (Lib.cut c [34]).1=c1 at *;generalize (Lib.cut c [34]).2.1=c2 at *;go_wp2_with fail
    refine (KT _).out.mono ?_;rintro e w1 ⟨rfl,hb1⟩;have HB1:=hbw.trans (hb1.mono hbw.size);have HM1:=zH (HM.out.keep hb1);go_wp2_with fail
    refine (KP _).out.mono ?_;rintro e w2 ⟨rfl,rfl⟩;go_wp2_with fail
    refine (KC _ HM1.out).out.mono ?_;rintro e w3 ⟨rfl,hb3⟩;have HB3:=HB1.trans (hb3.mono HB1.size);go_wp2_with fail
    go_ret2
    rw[HR.out];exact ⟨rfl,HB3⟩
   | true=>
    have HR:=HQ h1 h2;rw[h2] at KC;clear h1 h2 HS HQ;generalize (Lib.cut c [34]).1=c1 at *;generalize (Lib.cut c [34]).2.1=c2 at *;go_wp2_with fail
    refine (KT _).out.mono ?_;rintro e w1 ⟨rfl,hb1⟩;have HB1:=hbw.trans (hb1.mono hbw.size);have HM1:=zH (HM.out.keep hb1);go_wp2_with fail
    refine (KP _).out.mono ?_;rintro e w2 ⟨rfl,rfl⟩;go_wp2_with fail
    refine (KC _ HM1.out).out.mono ?_;rintro e w3 ⟨rfl,hb3⟩;have HB3:=HB1.trans (hb3.mono HB1.size);go_wp2_with fail
    go_roundw
    case rel=>exact ⟨f,c2,rfl,by have:=HR.out.2;omega,by have:=HR.out.2;omega,HK.out.trans HR.out.1,HB3⟩
    case measure=>have:=HR.out.2;simp[z1x];omega
end ImplSkip
end Go.Proofs.YtlmhgeanknhcfaaGreatDoor
