/-
  ImplTok Cutting ImplSigns ImplCount
-/
import Derived.Test.YtlmhgeanknhcfaaGreatDoorB29
import Derived.Shelf.Small.Wraps
import Derived.Shelf.Strings.Count
set_option maxHeartbeats 4000000
namespace Go.Proofs.YtlmhgeanknhcfaaGreatDoor
namespace ImplTok
open Go.RowKit
open Strs
theorem zpc (c:UInt8) (w:World):
  Calls Tryz.prog 155 #[.int .i32 (c.toNat:Int)] w fun e w'=>e=.returned (.bool (Tok.letter c))/\w=w':=by
 have H:(Hid (Tok.letter c=true)/\(97:Int)<=c.toNat/\(c.toNat:Int)<=122)\/(Hid (Tok.letter c=false)/\(97:Int)<=c.toNat/\¬(c.toNat:Int)<=122/\¬(c.toNat:Int)<=90) \/
   (Hid (Tok.letter c=true)/\¬(97:Int)<=c.toNat/\(65:Int)<=c.toNat/\(c.toNat:Int)<=90)\/(Hid (Tok.letter c=false)/\¬(97:Int)<=c.toNat/\(65:Int)<=c.toNat/\¬(c.toNat:Int)<=90) \/
   (Hid (Tok.letter c=false)/\¬(97:Int)<=c.toNat/\¬(65:Int)<=c.toNat):=by
  by_cases h1:97<=c.toNat
  ·by_cases h2:c.toNat<=122
   ·exact .inl ⟨(by show Tok.letter c=true;simp[Tok.letter,h1,h2]),by omega,by omega⟩
   ·exact .inr (.inl ⟨(by show Tok.letter c=false;simp[Tok.letter,h2];omega),by omega,by omega,by omega⟩)
  ·by_cases h3:65<=c.toNat
   ·by_cases h4:c.toNat<=90
    ·exact .inr (.inr (.inl ⟨(by show Tok.letter c=true;simp[Tok.letter,h3,h4]),by omega,by omega,by omega⟩))
    ·exact .inr (.inr (.inr (.inl ⟨(by show Tok.letter c=false;simp[Tok.letter,h1,h4]),by omega,by omega,by omega⟩)))
   ·exact .inr (.inr (.inr (.inr ⟨(by show Tok.letter c=false;simp[Tok.letter,h1,h3]),by omega,by omega⟩)))
 rcases H with ⟨H,h1,h2⟩|⟨H,h1,h2,h3⟩|⟨H,h1,h2,h3⟩|⟨H,h1,h2,h3⟩|⟨H,h1,h2⟩
 all_goals
  generalize c.toNat=n at *;go_enter Tryz.func155,Tryz.ntmps155
  go_wp2
  go_ret;exact ⟨by rw[H.out];rfl,rfl⟩
theorem zv1 (n:Nat) (w:World) (h:128<=n):
  Calls Tryz.prog 155 #[.int .i32 (n:Int)] w fun e w'=>e=.returned (.bool false)/\w=w':=by
 have h1:(97:Int)<=n:=by omega
 have h2:¬(n:Int)<=122:=by omega
 have h3:(65:Int)<=n:=by omega
 have h4:¬(n:Int)<=90:=by omega
 go_enter Tryz.func155,Tryz.ntmps155
 go_wp2
 go_ret;exact ⟨rfl,rfl⟩
theorem z06 (c:UInt8) (w:World):
  Calls Tryz.prog 157 #[.int .i32 (c.toNat:Int)] w fun e w'=>e=.returned (.bool (Tok.digit c))/\w=w':=by
 have H:(Hid (Tok.digit c=true)/\(48:Int)<=c.toNat/\(c.toNat:Int)<=57)\/(Hid (Tok.digit c=false)/\(48:Int)<=c.toNat/\¬(c.toNat:Int)<=57)\/(Hid (Tok.digit c=false)/\¬(48:Int)<=c.toNat):=by
  by_cases h1:48<=c.toNat
  ·by_cases h2:c.toNat<=57
   ·exact .inl ⟨(by show Tok.digit c=true;simp[Tok.digit,h1,h2]),by omega,by omega⟩
   ·exact .inr (.inl ⟨(by show Tok.digit c=false;simp[Tok.digit,h2]),by omega,by omega⟩)
  ·exact .inr (.inr ⟨(by show Tok.digit c=false;simp[Tok.digit,h1]),by omega⟩)
 rcases H with ⟨H,h1,h2⟩|⟨H,h1,h2⟩|⟨H,h1⟩
 all_goals
  generalize c.toNat=n at *;go_enter Tryz.func157,Tryz.ntmps157
  go_wp2
  go_ret;exact ⟨by rw[H.out];rfl,rfl⟩
theorem z08 (n:Nat) (w:World) (h:128<=n):
  Calls Tryz.prog 157 #[.int .i32 (n:Int)] w fun e w'=>e=.returned (.bool false)/\w=w':=by
 have h1:(48:Int)<=n:=by omega
 have h2:¬(n:Int)<=57:=by omega
 go_enter Tryz.func157,Tryz.ntmps157
 go_wp2
 go_ret;exact ⟨rfl,rfl⟩
theorem zb6 (c:UInt8) (b:Bool) (w:World) (h:Tok.letter c=b):
  Calls Tryz.prog 155 #[.int .i32 (c.toNat:Int)] w fun e w'=>e=.returned (.bool b)/\w=w':=by subst h;exact zpc c w
theorem zdk (c:UInt8) (b:Bool) (w:World) (h:Tok.digit c=b):
  Calls Tryz.prog 157 #[.int .i32 (c.toNat:Int)] w fun e w'=>e=.returned (.bool b)/\w=w':=by subst h;exact z06 c w
theorem zh3 (c:UInt8):wrap32 (c.toNat:Int)=(c.toNat:Int):=by have:=c.toNat_lt;unfold wrap32;omega
theorem zy2 (c:UInt8) (h:128<=c.toNat):Tok.zcy c=false:=by unfold Tok.zcy Tok.letter Tok.digit;rw[decide_eq_false (by omega:¬c.toNat<=122),decide_eq_false (by omega:¬c.toNat<=90),decide_eq_false (by omega:¬c.toNat<=57)];simp
theorem zsn (s:ByteArray) (w:World):
  Calls Tryz.prog 194 #[.string s] w fun e w'=>e=.returned (.bool (Tok.za9 s.data.toList 0))/\w=w':=by
 by_cases h0:0<s.size
 ·have h0':0<s.data.toList.length:=by rw[Tok.zaj];exact h0
  have hx:s.data.toList[0]'h0'=s[0]'h0:=rfl;have HV:Hid (Tok.za9 s.data.toList 0=Tok.letter (s[0]'h0)):=by show _=_;unfold Tok.za9;rw[List.getElem?_eq_getElem h0',hx]
  have hne:(s.toList==[])=false:=by rw[ByteArray.toList_eq,beq_eq_false_iff_ne];intro h;rw[h] at h0';simp at h0'
  have KL:=fun w=>zH (zpc (s[0]'h0) w)
  clear hx h0';go_enter Tryz.func194,Tryz.ntmps194;go_wp2_with fail
  rw[zh3];refine (KL _).out.mono ?_;rintro e w1 ⟨rfl,rfl⟩;go_wp2_with fail
  go_ret;exact ⟨by rw[HV.out];rfl,rfl⟩
 ·have hd:s.data.toList=[]:=List.eq_nil_of_length_eq_zero (by rw[Tok.zaj];omega)
  have HV:Hid (Tok.za9 s.data.toList 0=false):=by show _=_;rw[hd];rfl
  have hne:(s.toList==[])=true:=by rw[ByteArray.toList_eq,hd];rfl
  clear hd;go_enter Tryz.func194,Tryz.ntmps194;go_wp2_with fail
  go_ret;exact ⟨by rw[HV.out];rfl,rfl⟩
def Word (s:ByteArray) (w:World) (e:Ending) (w':World):Prop:=e=.returned (.string (s.extract 0 (Tok.run s.data.toList 0)))/\Below w.heap.size w w'
theorem zh7 (s:ByteArray) (w:World):
  Calls Tryz.prog 186 #[.string s] w (Word s w):=by
 go_enter Tryz.func186,Tryz.ntmps186;go_wp2_with fail
 go_loopw [] (fun wr=>∃ i:Nat,i<=s.size/\wr=w.iter s i/\Tok.run s.data.toList 0=Tok.run s.data.toList i) (fun wr=>s.size-wr.iterPos w.heap.size)
 case atStart=>exact ⟨0,Nat.zero_le _,rfl,rfl⟩
 case round=>
  obtain ⟨i,hi,rfl,hr⟩:=hrel;have HR:=zH hr;clear hr;by_cases hlt:i<s.size
  ·have hlt':i<s.data.toList.length:=by rw[Tok.zaj];exact hlt
   have hx:s.data.toList[i]'hlt'=s[i]'hlt:=rfl;have HS:Hid (Tok.zcy (s[i]'hlt)=true->Tok.run s.data.toList 0=Tok.run s.data.toList (i+1)):=fun h=>HR.out.trans (Tok.z6h _ i hlt' (by rw[hx];exact h))
   have HN:Hid (Tok.zcy (s[i]'hlt)=false->Tok.run s.data.toList 0=i):=fun h=>HR.out.trans (Tok.zld _ i (fun h'=>by rw[hx];exact h))
   clear hx hlt';by_cases ha:(s[i]'hlt).toNat<128
   ·have hnx:∀ ty,(Instr.next (.pointer (some ⟨w.heap.size,0,none⟩)) true ty).run Tryz.prog (w.iter s i)=_:=fun ty=>run_next_ascii w s i ty hlt ha
    by_cases h1:Tok.letter (s[i]'hlt)=true
    ·have K1:=fun w=>zH (zb6 (s[i]'hlt) true w h1)
     have HA:Hid (Tok.zcy (s[i]'hlt)=true):=by show _=_;unfold Tok.zcy;rw[h1];rfl
     clear h1 ha;go_wp2_with fail
     refine (K1 _).out.mono ?_;rintro e w1 ⟨rfl,rfl⟩;go_wp2_with fail
     go_roundw
     case rel=>exact ⟨i+1,by omega,rfl,HS.out HA.out⟩
     case measure=>simp;omega
    ·rw[Bool.not_eq_true] at h1
     have K1:=fun w=>zH (zb6 (s[i]'hlt) false w h1)
     by_cases h2:Tok.digit (s[i]'hlt)=true
     ·have K2:=fun w=>zH (zdk (s[i]'hlt) true w h2)
      have HA:Hid (Tok.zcy (s[i]'hlt)=true):=by show _=_;unfold Tok.zcy;rw[h1,h2];rfl
      clear h1 h2 ha;go_wp2_with fail
      refine (K1 _).out.mono ?_;rintro e w1 ⟨rfl,rfl⟩;go_wp2_with fail
      refine (K2 _).out.mono ?_;rintro e w1 ⟨rfl,rfl⟩;go_wp2_with fail
      go_roundw
      case rel=>exact ⟨i+1,by omega,rfl,HS.out HA.out⟩
      case measure=>simp;omega
     ·rw[Bool.not_eq_true] at h2
      have K2:=fun w=>zH (zdk (s[i]'hlt) false w h2)
      have HE:Hid (Tok.run s.data.toList 0=i):=HN.out (by unfold Tok.zcy;rw[h1,h2];rfl);clear h1 h2 ha;go_wp2_with fail
      refine (K1 _).out.mono ?_;rintro e w1 ⟨rfl,rfl⟩;go_wp2_with fail
      refine (K2 _).out.mono ?_;rintro e w1 ⟨rfl,rfl⟩;go_wp2_with fail
      go_ret;unfold Word;rw[HE.out];exact ⟨rfl,(zB _ _).alloc (zL _) _⟩
   ·have HE:Hid (Tok.run s.data.toList 0=i):=HN.out (zy2 _ (by omega))
    have hnx:∀ ty,(Instr.next (.pointer (some ⟨w.heap.size,0,none⟩)) true ty).run Tryz.prog (w.iter s i)=_:=fun ty=>run_next_any w s i ty hlt
    have hd:=(decode_high s i hlt (by omega)).1;generalize (Utf8.decode s i).1=n at *;generalize (Utf8.decode s i).2=m at *;have K1:=fun w=>zH (zv1 n w hd)
    have K2:=fun w=>zH (z08 n w hd)
    clear ha;go_wp2_with fail
    refine (K1 _).out.mono ?_;rintro e w1 ⟨rfl,rfl⟩;go_wp2_with fail
    refine (K2 _).out.mono ?_;rintro e w1 ⟨rfl,rfl⟩;go_wp2_with fail
    go_ret;unfold Word;rw[HE.out];exact ⟨rfl,(zB _ _).alloc (zL _) _⟩
  ·have HE:Hid (Tok.run s.data.toList 0=s.size):=by
    show _=_
    rw[HR.out,Tok.zld _ i (fun h'=>by rw[Tok.zaj] at h';omega)];omega
   have hnx:∀ ty,(Instr.next (.pointer (some ⟨w.heap.size,0,none⟩)) true ty).run Tryz.prog (w.iter s i)=_:=fun ty=>run_next_end w s i ty hlt
   go_wp2_with fail
   go_ret;unfold Word;rw[HE.out];exact ⟨by rw[show s.extract 0 s.size=s from Tok.zsy s];rfl,(zB _ _).alloc (zL _) _⟩
theorem ybp (a b:List UInt8):(a==b)=(b==a):=by rw[Bool.eq_iff_iff,beq_iff_eq,beq_iff_eq,eq_comm]
theorem z2p (s:ByteArray) (w:World):
  Calls Tryz.prog 172 #[.string s] w fun e w'=>e=.returned (.bool (Tok.has Tok.words s))/\w=w':=by
 have H:Tok.has Tok.words s=((s.toList==[99,108,97,115,115])||((s.toList==[101,120,116,101,110,100,115])||((s.toList==[102,105,101,108,100,115])||((s.toList==[109,101,116,104,111,100])||((s.toList==[99,108,97,115,115,109,101,116,104,111,100])||((s.toList==[101,110,100])||(s.toList==[109,97,105,110]))))))):=by unfold Tok.has Tok.words;simp only[List.any_cons,List.any_nil,Bool.or_false,ByteArray.toList_eq,ybp s.data.toList]
 have HV:=zH H;clear H;cases e0:(s.toList==[99,108,97,115,115]) with
 | true=>
  go_enter Tryz.func172,Tryz.ntmps172;go_wp2_with fail
  go_ret;exact ⟨by rw[HV.out,e0];rfl,rfl⟩
 | false=>
  cases e1:(s.toList==[101,120,116,101,110,100,115]) with
  | true=>
   go_enter Tryz.func172,Tryz.ntmps172;go_wp2_with fail
   go_ret;exact ⟨by rw[HV.out,e0,e1];rfl,rfl⟩
  | false=>
   cases e2:(s.toList==[102,105,101,108,100,115]) with
   | true=>
    go_enter Tryz.func172,Tryz.ntmps172;go_wp2_with fail
    go_ret;exact ⟨by rw[HV.out,e0,e1,e2];rfl,rfl⟩
   | false=>
    cases e3:(s.toList==[109,101,116,104,111,100]) with
    | true=>
     go_enter Tryz.func172,Tryz.ntmps172;go_wp2_with fail
     go_ret;exact ⟨by rw[HV.out,e0,e1,e2,e3];rfl,rfl⟩
    | false=>
     cases e4:(s.toList==[99,108,97,115,115,109,101,116,104,111,100]) with
     | true=>
      go_enter Tryz.func172,Tryz.ntmps172;go_wp2_with fail
      go_ret;exact ⟨by rw[HV.out,e0,e1,e2,e3,e4];rfl,rfl⟩
     | false=>
      cases e5:(s.toList==[101,110,100]) with
      | true=>
       go_enter Tryz.func172,Tryz.ntmps172;go_wp2_with fail
       go_ret;exact ⟨by rw[HV.out,e0,e1,e2,e3,e4,e5];rfl,rfl⟩
      | false=>
       cases e6:(s.toList==[109,97,105,110]) with
       | true=>
        go_enter Tryz.func172,Tryz.ntmps172;go_wp2_with fail
        go_ret;exact ⟨by rw[HV.out,e0,e1,e2,e3,e4,e5,e6];rfl,rfl⟩
       | false=>
        go_enter Tryz.func172,Tryz.ntmps172;go_wp2_with fail
        go_ret;exact ⟨by rw[HV.out,e0,e1,e2,e3,e4,e5,e6];rfl,rfl⟩
def Part (b:Bool) (w:World) (e:Ending) (w':World):Prop:=e=.returned (.bool b)/\Below w.heap.size w w'
theorem z3t (s:ByteArray) (w:World):
  Calls Tryz.prog 171 #[.string s] w (Part (Tok.zca s.data.toList) w):=by
 have HV:=zH (Tok.zga s);have KL:=fun w=>zH (zsn s w)
 have KW:=fun w=>zH (zh7 s w)
 by_cases h20:s.size<=20
 ·have h20i:(s.size:Int)<=20:=by omega
  by_cases hl:Tok.za9 s.data.toList 0=true
  ·rw[hl] at KL
   have HE:Hid (Tok.zca s.data.toList=((s.extract 0 (Tok.run s.data.toList 0)).toList==s.toList)):=by show _=_;rw[HV.out,decide_eq_true h20,hl];rfl
   clear hl HV;go_enter Tryz.func171,Tryz.ntmps171;go_wp2_with fail
   refine (KL _).out.mono ?_;rintro e w1 ⟨rfl,rfl⟩;go_wp2_with fail
   refine (KW _).out.mono ?_;rintro e w1 ⟨rfl,hb⟩;go_wp2_with fail
   go_ret;exact ⟨by rw[HE.out];rfl,hb⟩
  ·rw[Bool.not_eq_true] at hl
   rw[hl] at KL;have HE:Hid (Tok.zca s.data.toList=false):=by show _=_;rw[HV.out,hl,Bool.and_false];rfl
   clear hl HV;go_enter Tryz.func171,Tryz.ntmps171;go_wp2_with fail
   refine (KL _).out.mono ?_;rintro e w1 ⟨rfl,rfl⟩;go_wp2_with fail
   go_ret;exact ⟨by rw[HE.out];rfl,zB _ _⟩
 ·have h20i:¬(s.size:Int)<=20:=by omega
  have HE:Hid (Tok.zca s.data.toList=false):=by show _=_;rw[HV.out,decide_eq_false h20];rfl
  clear HV;go_enter Tryz.func171,Tryz.ntmps171;go_wp2_with fail
  go_ret;exact ⟨by rw[HE.out];rfl,zB _ _⟩
theorem zm5 (s:ByteArray) (w:World):
  Calls Tryz.prog 138 #[.string s] w (Part (Tok.za3 s) w):=by
 have HV:Hid (Tok.za3 s=(Tok.zca s.data.toList&&!Tok.has Tok.words s)):=rfl;have KP:=fun w=>zH (z3t s w)
 have KW:=fun w=>zH (z2p s w)
 generalize Tok.zca s.data.toList=a at *;generalize Tok.has Tok.words s=b at *;cases a with
 | true=>
  go_enter Tryz.func138,Tryz.ntmps138;go_wp2_with fail
  refine (KP _).out.mono ?_;rintro e w1 ⟨rfl,hb⟩;go_wp2_with fail
  refine (KW _).out.mono ?_;rintro e w2 ⟨rfl,rfl⟩;go_wp2_with fail
  go_ret;exact ⟨by rw[HV.out];rfl,hb⟩
 | false=>
  go_enter Tryz.func138,Tryz.ntmps138;go_wp2_with fail
  refine (KP _).out.mono ?_;rintro e w1 ⟨rfl,hb⟩;go_wp2_with fail
  go_ret;exact ⟨by rw[HV.out];rfl,hb⟩
end ImplTok
namespace Shelf
open Go.Shelf
def zxw:Go.Shelf.Ren:=⟨fun|104=>177|211=>199|207=>207|n=>n,fun|9=>9|4=>4|24=>141|3=>3|n=>n,fun|n=>n⟩
theorem ybn:Go.Proofs.Lays.n104 Tryz.prog zxw:={
 mixed:=by kernel_rfl
 f104:=Tryz.func177.trans (congrArg some (by kernel_rfl))
 f207:=Tryz.func207.trans (congrArg some (by kernel_rfl))
 f211:=Tryz.func199.trans (congrArg some (by kernel_rfl))
 t3:=Tryz.underlying3
 a3:=Tryz.isAgg3
 z3:=Tryz.sizeOf3
 v3:=Tryz.zeroValue3
 t4:=Tryz.underlying4
 a4:=Tryz.isAgg4
 z4:=Tryz.sizeOf4
 v4:=Tryz.zeroValue4
 t9:=Tryz.underlying9
 a9:=Tryz.isAgg9
 z9:=Tryz.sizeOf9
 v9:=Tryz.zeroValue9
 t24:=Tryz.underlying141
 a24:=Tryz.isAgg141
 z24:=Tryz.sizeOf141
 v24:=Tryz.zeroValue141 }
open Go.RowKit in
theorem strings_CutSuffix (s p:ByteArray) (w:World) (hs:s.size<=9223372036854775807):
  Calls Tryz.prog 177 #[.string s,.string p] w fun e w'=>e=.returned (.tuple #[.string ⟨(Lib.trimSuffix s.data.toList p.data.toList).toArray⟩,.bool (Lib.hasSuffix s.data.toList p.data.toList)])/\w'=w:=Any.strings_CutSuffix ybn s p w hs
def zv2:Go.Shelf.Ren:=⟨fun|138=>176|195=>196|218=>197|143=>198|219=>204|217=>210|225=>211|224=>212|267=>213|266=>219|314=>220|n=>n,fun|9=>9|3=>3|4=>4|5=>5|0=>0|46=>208|146=>221|51=>220|n=>n,fun|1=>1|n=>n⟩
theorem yby:Go.Proofs.Lays.n138 Tryz.prog zv2:={
 mixed:=by kernel_rfl
 f138:=Tryz.func176.trans (congrArg some (by kernel_rfl))
 f143:=Tryz.func198.trans (congrArg some (by kernel_rfl))
 f195:=Tryz.func196.trans (congrArg some (by kernel_rfl))
 f217:=Tryz.func210.trans (congrArg some (by kernel_rfl))
 f218:=Tryz.func197.trans (congrArg some (by kernel_rfl))
 f219:=Tryz.func204.trans (congrArg some (by kernel_rfl))
 f224:=Tryz.func212.trans (congrArg some (by kernel_rfl))
 f225:=Tryz.func211.trans (congrArg some (by kernel_rfl))
 f266:=Tryz.func219.trans (congrArg some (by kernel_rfl))
 f267:=Tryz.func213.trans (congrArg some (by kernel_rfl))
 f314:=Tryz.func220.trans (congrArg some (by kernel_rfl))
 t0:=Tryz.underlying0
 a0:=Tryz.isAgg0
 z0:=Tryz.sizeOf0
 v0:=Tryz.zeroValue0
 t3:=Tryz.underlying3
 a3:=Tryz.isAgg3
 z3:=Tryz.sizeOf3
 v3:=Tryz.zeroValue3
 t4:=Tryz.underlying4
 a4:=Tryz.isAgg4
 z4:=Tryz.sizeOf4
 v4:=Tryz.zeroValue4
 t5:=Tryz.underlying5
 a5:=Tryz.isAgg5
 z5:=Tryz.sizeOf5
 v5:=Tryz.zeroValue5
 t9:=Tryz.underlying9
 a9:=Tryz.isAgg9
 z9:=Tryz.sizeOf9
 v9:=Tryz.zeroValue9
 t46:=Tryz.underlying208
 a46:=Tryz.isAgg208
 z46:=Tryz.sizeOf208
 v46:=Tryz.zeroValue208
 t51:=Tryz.underlying220
 a51:=Tryz.isAgg220
 z51:=Tryz.sizeOf220
 v51:=Tryz.zeroValue220
 t146:=Tryz.underlying221
 a146:=Tryz.isAgg221
 z146:=Tryz.sizeOf221
 v146:=Tryz.zeroValue221
 g1:=by kernel_rfl }
open Go.RowKit Go.Lib in
theorem strings_Count_one (s:ByteArray) (c:UInt8) (w:World):
  Calls Tryz.prog 176 #[.string s,.string ⟨#[c]⟩] w fun e w'=>e=.returned (.int .i64 (Lib.countByte s.data.toList c))/\w'=w:=Any.strings_Count_one yby s c w
def z0q:Go.Shelf.Ren:=⟨fun|99=>205|206=>203|n=>n,fun|9=>9|4=>4|3=>3|n=>n,fun|n=>n⟩
theorem yda:Go.Proofs.Lays.n99 Tryz.prog z0q:={
 mixed:=by kernel_rfl
 f99:=Tryz.func205.trans (congrArg some (by kernel_rfl))
 f206:=Tryz.func203.trans (congrArg some (by kernel_rfl))
 t3:=Tryz.underlying3
 a3:=Tryz.isAgg3
 z3:=Tryz.sizeOf3
 v3:=Tryz.zeroValue3
 t4:=Tryz.underlying4
 a4:=Tryz.isAgg4
 z4:=Tryz.sizeOf4
 v4:=Tryz.zeroValue4
 t9:=Tryz.underlying9
 a9:=Tryz.isAgg9
 z9:=Tryz.sizeOf9
 v9:=Tryz.zeroValue9 }
open Go.RowKit Go.Lib in
theorem strings_HasPrefix (s p:ByteArray) (w:World):
  Calls Tryz.prog 205 #[.string s,.string p] w fun e w'=>e=.returned (.bool (Lib.hasPrefix s.data.toList p.data.toList))/\w'=w:=Any.strings_HasPrefix yda s p w
end Shelf
namespace ImplSigns
open Go.RowKit
open Strs
def List (xs:_root_.List ByteArray) (w:World) (e:Ending) (w':World):Prop:=∃ a c,e=.returned (.slice a xs.length c)/\At w' (.slice a xs.length c) xs/\Below w.heap.size w w'
theorem zmt (w:World) (C:Array Value) (xs:_root_.List ByteArray) (n:Nat) (hn:xs.length=n) (hm:n<=1048576) (hC:∀ j,j<n->C[j]?=some (.string (xs.getD j ByteArray.empty))):
  List xs w (.returned (.slice (some ⟨w.heap.size,0,none⟩) n n)) (w.alloc (.cells C 9)):=by
 subst hn;refine ⟨_,_,rfl,⟨_,_,rfl,by unfold maxLen;omega,fun _=>⟨_,0,rfl,fun j hj=>?_⟩⟩,(zB _ _).alloc (zL _) _⟩
 rw[Nat.zero_add,World.cell?_alloc_mark w _ _ (0,0) j];exact hC j hj
theorem zav (w:World):Calls Tryz.prog 191 #[] w (List Tok.zad w):=by
 go_enter Tryz.func191,Tryz.ntmps191
 go_wp2
 go_ret;refine zmt w _ Tok.zad 15 rfl (by omega) (fun j hj=>?_)
 obtain rfl|rfl|rfl|rfl|rfl|rfl|rfl|rfl|rfl|rfl|rfl|rfl|rfl|rfl|rfl:j=0\/j=1\/j=2\/j=3\/j=4\/j=5\/j=6\/j=7\/j=8\/j=9\/j=10\/j=11\/j=12\/j=13\/j=14:=by omega
 all_goals rfl
theorem z6t (s x:ByteArray):Lib.hasPrefix s.data.toList x.data.toList=Tok.begins s 0 x:=by rw[Tok.zmg s 0 x (Nat.zero_le _),_root_.List.drop_zero];rfl
theorem zoc (s:ByteArray) (v:Value) (xs:_root_.List ByteArray) (w:World) (h:At w v xs):
  Calls Tryz.prog 190 #[.string s,v] w fun e w'=>e=.returned (.string (Tok.starts s 0 xs))/\w=w':=by
 obtain ⟨a,cap,rfl,hm,hc⟩:=h;unfold maxLen at hm;have HC:=zH hc;clear hc;have KP:=fun x w=>zH (Shelf.strings_HasPrefix s x w)
 simp only[z6t] at KP;generalize hn:xs.length=n at *;have HN:=zH hn;clear hn;go_enter Tryz.func190,Tryz.ntmps190;go_wp2_with fail
 go_loop [9] (fun j=>∃ i:Nat,i<=n/\j=.int .i64 i/\∀ k (hk:k<xs.length),k<i->Tok.begins s 0 xs[k]=false) (fun j=>n-(intOf j).toNat)
 case atStart=>exact ⟨0,by omega,rfl,fun k hk h=>by omega⟩
 case round=>
  obtain ⟨i,hi,rfl,hno⟩:=hrel;have HNO:=zH hno;clear hno;by_cases hlt:i<n
  ·obtain ⟨b,off,rfl,hcell⟩:=HC.out (by omega)
   have hil:i<xs.length:=by rw[HN.out];exact hlt
   have hci:=hcell i hlt;have HX:Hid (xs.getD i ByteArray.empty=xs[i]):=by show _=_;simp[_root_.List.getD,hil]
   rw[HX.out] at hci;clear hcell
   have HF:Hid (Tok.begins s 0 xs[i]=false->∀ k (hk:k<xs.length),k<i+1->Tok.begins s 0 xs[k]=false):=by
    intro hf k hk h1;by_cases h2:k=i
    ·subst h2;exact hf
    ·exact HNO.out k hk (by omega)
   have HT:Hid (Tok.begins s 0 xs[i]=true->Tok.starts s 0 xs=xs[i]):=fun hb=>Tok.zun s 0 xs i hil hb fun j hj h=>HNO.out j hj h
   clear HX;generalize xs[i]=x at *;cases he:Tok.begins s 0 x with
   | true=>
    have KX:=fun w=>KP x w
    rw[he] at KX;have HR:=zH (HT.out he);clear he;go_wp2_with fail
    refine (KX _).out.mono ?_;rintro e w1 ⟨rfl,rfl⟩;go_wp2_with fail
    go_ret;exact ⟨by rw[HR.out];rfl,rfl⟩
   | false=>
    have KX:=fun w=>KP x w
    rw[he] at KX;have HR:=zH (HF.out he);clear he;go_wp2_with fail
    refine (KX _).out.mono ?_;rintro e w1 ⟨rfl,rfl⟩;go_wp2_with fail
    go_round
    case rel=>exact ⟨i+1,by omega,by go_num,HR.out⟩
    case measure=>simp[intOf];omega
  ·have HR:Hid (Tok.starts s 0 xs=ByteArray.empty):=Tok.zqs s 0 xs fun j hj=>HNO.out j hj (by have:=HN.out;omega)
   go_wp2_with fail
   go_ret;exact ⟨by rw[HR.out];rfl,rfl⟩
theorem zvr (s:ByteArray) (w:World):
  Calls Tryz.prog 175 #[.string s] w (ImplTok.Part (Tok.has Tok.zad s) w):=by
 have HV:=zH (Tok.yfg s);have KS:=fun v w h=>zH (zoc s v Tok.zad w h)
 by_cases h0:s.data.toList=[]
 ·have hne:(s.toList==[])=true:=by rw[ByteArray.toList_eq,h0];rfl
  have HE:Hid (Tok.has Tok.zad s=false):=by show _=_;rw[HV.out,h0];rfl
  clear h0 HV;go_enter Tryz.func175,Tryz.ntmps175;go_wp2_with fail
  go_ret;exact ⟨by rw[HE.out];rfl,zB _ _⟩
 ·have hne:(s.toList==[])=false:=by rw[ByteArray.toList_eq,beq_eq_false_iff_ne];exact h0
  have HE:Hid (Tok.has Tok.zad s=((Tok.starts s 0 Tok.zad).toList==s.toList)):=by
   show _=_
   rw[HV.out];have:s.data.toList.isEmpty=false:=by rw[<-Bool.not_eq_true,_root_.List.isEmpty_iff];exact h0
   rw[this];rfl
  clear h0 HV;generalize Tok.starts s 0 Tok.zad=x at *;go_enter Tryz.func175,Tryz.ntmps175;go_wp2_with fail
  refine (zav _).mono ?_;rintro e w1 ⟨a,c,rfl,hat,hb1⟩;go_wp2_with fail
  refine (KS _ _ hat).out.mono ?_;rintro e w2 ⟨rfl,rfl⟩;go_wp2_with fail
  go_ret;exact ⟨by rw[HE.out];rfl,hb1⟩
end ImplSigns
namespace ImplCount
open Go.RowKit
open Strs
theorem zf4 (s:ByteArray) (w:World) (hs:s.size<=1048576):
  Calls Tryz.prog 145 #[.string s] w fun e w'=>e=.returned (.int .i64 (Tok.zar s))/\Below w.heap.size w w':=by
 have HV:Hid (Tok.zar s=Tok.args s):=Tok.ycm s;have KO:=fun w=>zH (ImplSigns.zvr s w)
 have KN:=fun w=>zH (ImplTok.zm5 s w)
 have KC:=fun w=>zH (Shelf.strings_Count_one s 58 w)
 have KS:=fun w=>zH (Shelf.strings_CutSuffix s ⟨#[58]⟩ w (by omega))
 cases h1:Tok.has Tok.zad s with
 | true=>
  have HE:Hid (Tok.zar s=1):=by show _=_;rw[HV.out];unfold Tok.args;rw[h1];rfl
  rw[h1] at KO;clear h1 HV;go_enter Tryz.func145,Tryz.ntmps145;go_wp2_with fail
  refine (KO _).out.mono ?_;rintro e w1 ⟨rfl,hb1⟩;go_wp2_with fail
  go_ret;exact ⟨by rw[HE.out];rfl,hb1⟩
 | false=>
  rw[h1] at KO;cases h2:Tok.za3 s with
  | true=>
   have HE:Hid (Tok.zar s=0):=by show _=_;rw[HV.out];unfold Tok.args;rw[h1,h2];rfl
   rw[h2] at KN;clear h1 h2 HV;go_enter Tryz.func145,Tryz.ntmps145;go_wp2_with fail
   refine (KO _).out.mono ?_;rintro e w1 ⟨rfl,hb1⟩;go_wp2_with fail
   refine (KN _).out.mono ?_;rintro e w2 ⟨rfl,hb2⟩;go_wp2_with fail
   go_ret;exact ⟨by rw[HE.out];rfl,hb1.trans (hb2.mono hb1.size)⟩
  | false=>
   rw[h2] at KN
   have HV2:Hid (Tok.zar s=if Lib.hasSuffix s.data.toList [58]=false then -1 else if 4<Tok.zem s then -1 else if (Cuts.parts (s.extract 0 (s.size-1)) 58).all (fun p=>Tok.zca p.data.toList)=true then (Tok.zem s:Int) else -1):=by show _=_;rw[HV.out];unfold Tok.args;rw[h1,h2];rfl
   clear h1 h2 HV;have HC:Hid (Lib.countByte s.data.toList 58=Tok.zem s):=rfl;rw[HC.out] at KC
   have hcl:Tok.zem s<=s.size:=by unfold Tok.zem;rw[<-Tok.zaj];exact _root_.List.count_le_length
   cases h3:Lib.hasSuffix s.data.toList [58] with
   | false=>
    have HE:Hid (Tok.zar s = -1):=by show _=_;rw[HV2.out,h3];rfl
    have h3':Lib.hasSuffix s.data.toList (⟨#[58]⟩:ByteArray).data.toList=false:=h3;rw[h3'] at KS;clear h3 h3' HV2;go_enter Tryz.func145,Tryz.ntmps145;go_wp2_with fail
    refine (KO _).out.mono ?_;rintro e w1 ⟨rfl,hb1⟩;go_wp2_with fail
    refine (KN _).out.mono ?_;rintro e w2 ⟨rfl,hb2⟩;go_wp2_with fail
    refine (KC _).out.mono ?_;rintro e w3 ⟨rfl,rfl⟩;go_wp2_with fail
    refine (KS _).out.mono ?_;rintro e w3 ⟨rfl,rfl⟩;go_wp2_with fail
    go_ret;exact ⟨by rw[HE.out];rfl,hb1.trans (hb2.mono hb1.size)⟩
   | true=>
    have h3':Lib.hasSuffix s.data.toList (⟨#[58]⟩:ByteArray).data.toList=true:=h3
    have HT:Hid ((⟨(Lib.trimSuffix s.data.toList (⟨#[58]⟩:ByteArray).data.toList).toArray⟩:ByteArray)=s.extract 0 (s.size-1)):=by
     show _=_
     apply Tok.zl7;unfold Lib.trimSuffix;rw[if_pos h3',Tok.zbp];show s.data.toList.take (s.data.toList.length-1)=_
     rw[Tok.zaj];rfl
    rw[h3',HT.out] at KS
    have HV3:Hid (Tok.zar s=if 4<Tok.zem s then -1 else if (Cuts.parts (s.extract 0 (s.size-1)) 58).all (fun p=>Tok.zca p.data.toList)=true then (Tok.zem s:Int) else -1):=by show _=_;rw[HV2.out,h3];rfl
    clear h3 h3' HV2 HT HC;have hks:(s.extract 0 (s.size-1)).size<=1048576:=by rw[<-Tok.zaj,Tok.zbp,_root_.List.length_take];omega
    generalize s.extract 0 (s.size-1)=kw at *;generalize Tok.zem s=n at *;by_cases h4:(4:Int)<(n:Int)
    ·have HE:Hid (Tok.zar s = -1):=by show _=_;rw[HV3.out,if_pos (by omega)]
     clear HV3;go_enter Tryz.func145,Tryz.ntmps145;go_wp2_with fail
     refine (KO _).out.mono ?_;rintro e w1 ⟨rfl,hb1⟩;go_wp2_with fail
     refine (KN _).out.mono ?_;rintro e w2 ⟨rfl,hb2⟩;go_wp2_with fail
     refine (KC _).out.mono ?_;rintro e w3 ⟨rfl,rfl⟩;go_wp2_with fail
     refine (KS _).out.mono ?_;rintro e w3 ⟨rfl,rfl⟩;go_wp2_with fail
     go_ret;exact ⟨by rw[HE.out];rfl,hb1.trans (hb2.mono hb1.size)⟩
    ·have HV4:Hid (Tok.zar s=if (Cuts.parts kw 58).all (fun p=>Tok.zca p.data.toList)=true then (n:Int) else -1):=by
      show _=_;rw[HV3.out,if_neg (by omega)]
     have KP:=fun w=>zH (ImplSplit.zi9 kw 58 w hks)
     have hlen:=(Cuts.zg6 kw 58).2;clear HV3;generalize Cuts.parts kw 58=ps at *;go_enter Tryz.func145,Tryz.ntmps145;go_wp2_with fail
     refine (KO _).out.mono ?_;rintro e w1 ⟨rfl,hb1⟩;go_wp2_with fail
     refine (KN _).out.mono ?_;rintro e w2 ⟨rfl,hb2⟩;go_wp2_with fail
     refine (KC _).out.mono ?_;rintro e w3 ⟨rfl,rfl⟩;go_wp2_with fail
     refine (KS _).out.mono ?_;rintro e w3 ⟨rfl,rfl⟩;go_wp2_with fail
     refine (KP _).out.mono ?_;rintro e w4 ⟨v,rfl,hown,hb4⟩;have hb12:=hb1.trans (hb2.mono hb1.size);have HB4:Hid (Below w.heap.size w w4):=hb12.trans (hb4.mono hb12.size);have HA:=zH (at_own hown);obtain ⟨ra,rc,rfl⟩:=Kit.za5 hown;clear hown hb4 hb1 hb2 hb12;go_wp2_with fail
     generalize hn:ps.length=m at *;have HN:=zH hn;clear hn
     go_loopw [28] (fun j wr=>∃ i:Nat,i<=m/\j=.int .i64 i/\(∀ k (hk:k<ps.length),k<i->Tok.zca ps[k].data.toList=true)/\Below w.heap.size w wr/\At wr (.slice ra m rc) ps) (fun j _=>m-(intOf j).toNat)
     case atStart=>exact ⟨0,by omega,rfl,fun k hk h=>by omega,HB4.out,HA.out⟩
     case round=>
      obtain ⟨i,hi,rfl,hno,hbw,hat⟩:=hrel;have HNO:=zH hno;clear hno;have HAT:=zH hat;by_cases hlt:i<m
      ·obtain ⟨_,_,heq,_,hcc⟩:=hat
       rw[HN.out] at heq hcc;obtain ⟨b,off,hab,hcell⟩:=hcc (by omega);simp only[Value.slice.injEq,true_and] at heq;obtain ⟨rfl,rfl⟩:=heq;subst hab;have hil:i<ps.length:=by rw[HN.out];exact hlt
       have hci:=hcell i hlt;have HX:Hid (ps.getD i ByteArray.empty=ps[i]):=by show _=_;simp[_root_.List.getD,hil]
       rw[HX.out] at hci;clear hcell hcc
       have HF:Hid (Tok.zca ps[i].data.toList=true->∀ k (hk:k<ps.length),k<i+1->Tok.zca ps[k].data.toList=true):=by
        intro hf k hk h1;by_cases h2:k=i
        ·subst h2;exact hf
        ·exact HNO.out k hk (by omega)
       have HT:Hid (Tok.zca ps[i].data.toList=false->ps.all (fun p=>Tok.zca p.data.toList)=false):=fun hb=>Tok.z1f ps _ i hil hb
       clear HX;generalize ps[i]=x at *;have KX:=fun w=>zH (ImplTok.z3t x w)
       cases he:Tok.zca x.data.toList with
       | true=>
        rw[he] at KX;have HR:=zH (HF.out he);clear he HF HT;go_wp2_with fail
        refine (KX _).out.mono ?_;rintro e w6 ⟨rfl,hb6⟩;go_wp2_with fail
        go_roundw
        case rel=>exact ⟨i+1,by omega,by go_num,HR.out,hbw.trans (hb6.mono hbw.size),HAT.out.keep hb6⟩
        case measure=>simp[intOf];omega
       | false=>
        rw[he] at KX;have HE:Hid (Tok.zar s = -1):=by show _=_;rw[HV4.out,HT.out he];rfl
        clear he HF HT;go_wp2_with fail
        refine (KX _).out.mono ?_;rintro e w6 ⟨rfl,hb6⟩;go_wp2_with fail
        go_ret;exact ⟨by rw[HE.out];rfl,hbw.trans (hb6.mono hbw.size)⟩
      ·have HE:Hid (Tok.zar s=n):=by
        show _=_
        rw[HV4.out,Tok.z3b ps (fun p=>Tok.zca p.data.toList) (fun k hk=>HNO.out k hk (by have:=HN.out;omega))];rfl
       clear hat;go_wp2_with fail
       go_ret;exact ⟨by rw[HE.out];rfl,hbw⟩
theorem zi8 (s:ByteArray) (w:World) (hs:s.size<=1048576):
  Calls Tryz.prog 166 #[.string s] w fun e w'=>e=.returned (.bool (Tok.sel s))/\Below w.heap.size w w':=by
 have HV:=zH (Tok.zhx s);have KC:=fun w=>zH (zf4 s w hs)
 generalize Tok.zar s=n at *;go_enter Tryz.func166,Tryz.ntmps166;go_wp2_with fail
 refine (KC _).out.mono ?_;rintro e w1 ⟨rfl,hb1⟩;go_wp2_with fail
 go_ret;exact ⟨by rw[HV.out];rfl,hb1⟩
end ImplCount
end Go.Proofs.YtlmhgeanknhcfaaGreatDoor
