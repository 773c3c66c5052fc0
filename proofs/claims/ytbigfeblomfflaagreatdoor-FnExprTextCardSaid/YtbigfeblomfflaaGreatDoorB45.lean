/-
  ImplRead ImplInt ImplText ImplToken ImplNext
-/
import Derived.Test.YtbigfeblomfflaaGreatDoorB13
import Derived.Test.YtbigfeblomfflaaGreatDoorB46
set_option maxHeartbeats 4000000
set_option maxRecDepth 10000
namespace Go.Proofs.YtbigfeblomfflaaGreatDoor
namespace ImplRead
open Go.RowKit
open Strs
def Tv (r:Option (Tok.T×Nat)) (w:World) (e:Ending) (w':World):Prop:=match r with
 | some (t,n)=>e=.returned (.tuple #[.agg #[.int .i64 t.kind,.string t.text,.int .i64 t.num],.int .i64 (n:Nat)])/\Below w.heap.size w w'
 | none=>∃ (k:Int) (t:ByteArray) (n:Int),e=.returned (.tuple #[.agg #[.int .i64 k,.string t,.int .i64 n],.int .i64 0])/\Below w.heap.size w w'
structure Box (w:World) (B:Nat) (wr:World):Prop where
 below:Below B w wr
 size:B+1<=wr.heap.size
 c0:wr.cell? ⟨B,0,none⟩=some (.int .i64 0)
 c1:wr.cell? ⟨B,1,none⟩=some (.string ⟨#[]⟩)
 c2:wr.cell? ⟨B,2,none⟩=some (.int .i64 0)
 fz:∀ o,wr.frozen? ⟨B,o,none⟩=false
theorem Box.step {w wr w':World} {B:Nat} (h:Box w B wr) (hb:Below wr.heap.size wr w'):Box w B w':=
 ⟨h.below.trans (hb.mono (by have:=h.size;omega)),Nat.le_trans h.size hb.size,cell_keep hb h.c0,cell_keep hb h.c1,cell_keep hb h.c2,fun o=>(hb.frozen (p:=⟨B,o,none⟩) (by have:=h.size;simp;omega)).trans (h.fz o)⟩
theorem box_new (w:World):Box w w.heap.size (w.alloc (.cells #[.int .i64 0,.string ⟨#[]⟩,.int .i64 0] 82)):=by
 refine ⟨(zB _ _).alloc (zL _) _,by simp,?_,?_,?_,?_⟩
 all_goals first|(intro o;go_simp)|go_simp
theorem marks_any (w:World):Calls Tryz.prog 234 #[] w (ImplSigns.List Tok.marks w):=by
 go_enter Tryz.func234,Tryz.ntmps234
 go_wp2
 go_ret;refine ImplSigns.list_at w _ Tok.marks 10 rfl (by omega) (fun j hj=>?_)
 obtain rfl|rfl|rfl|rfl|rfl|rfl|rfl|rfl|rfl|rfl:j=0\/j=1\/j=2\/j=3\/j=4\/j=5\/j=6\/j=7\/j=8\/j=9:=by omega
 all_goals rfl
theorem starts_colon (s:ByteArray) (w:World):
  Calls Tryz.prog 230 #[.string s] w (ImplTok.Part (Tok.colon s.data.toList 0) w):=by
 have HV:=zH (Tok.colon_is s);have KS:=fun v w h=>zH (ImplSigns.sign_any s v Tok.marks w h)
 have HC:Hid (ByteArray.toList ⟨#[58]⟩=[58]):=by show _=_;rw[ByteArray.toList_eq]
 rw[HC.out] at HV;generalize Tok.starts s 0 Tok.marks=x at *;go_enter Tryz.func230,Tryz.ntmps230;go_wp2_with fail
 refine (marks_any _).mono ?_;rintro e w1 ⟨a,c,rfl,hat,hb1⟩;go_wp2_with fail
 refine (KS _ _ hat).out.mono ?_;rintro e w2 ⟨rfl,rfl⟩;go_wp2_with fail
 go_ret;exact ⟨by rw[HV.out];rfl,hb1⟩
theorem colon_at (s:ByteArray) (e:Nat) (b:Bool) (w:World) (h:Tok.colon s.data.toList e=b):
  Calls Tryz.prog 230 #[.string (s.extract e s.size)] w (ImplTok.Part b w):=by
 have h1:=starts_colon (s.extract e s.size) w
 have h2:Tok.colon (s.extract e s.size).data.toList 0=b:=by rw[<-h,show s.extract e s.size=Tok.rest s e from rfl,Tok.za5,<-Tok.colon_rest];rfl
 rwa [h2] at h1
theorem word_any (s:ByteArray) (w:World):
  Calls Tryz.prog 196 #[.string s] w (Tv (Tok.nameAt s 0) w):=by
 have hle:=Tok.run_le s.data.toList 0 (Nat.zero_le _);rw[Tok.zaa] at hle;have KW:=fun w=>zH (ImplTok.word_any s w)
 unfold ImplTok.Word at KW;have HV:Hid (Tok.nameAt s 0=(let e:=Tok.run s.data.toList 0;let x:=s.extract 0 e;if 20<e-0 then none else if Tok.colon s.data.toList e=true then some (⟨2,x++⟨#[58]⟩,0⟩,e+1) else some (⟨if Tok.has Tok.words x=true then 8 else 1,x,0⟩,e))):=rfl
 have hsz:(s.extract 0 (Tok.run s.data.toList 0)).size=Tok.run s.data.toList 0:=by rw[<-Tok.zaa,Tok.zan,List.length_take,List.length_drop,Tok.zaa];omega
 generalize Tok.run s.data.toList 0=n at *;simp only[Nat.sub_zero] at HV;have HX:Hid (Tok.colon s.data.toList n=true->s.extract 0 (n+1)=s.extract 0 n++⟨#[58]⟩):=Tok.colon_piece s n;have HL:Hid (Tok.colon s.data.toList n=true->n+1<=s.size):=fun h=>by have:=Tok.colon_lt _ _ h;rw[Tok.zaa] at this;exact this
 have KC:=fun b w h=>zH (colon_at s n b w h)
 have KI:=fun w=>zH (ImplTok.is_word (s.extract 0 n) w)
 have BX:=zH (box_new w);generalize s.extract 0 n=x at *;subst hsz;obtain ⟨-,hle⟩:=hle;by_cases h20:(20:Int)<(x.size:Int)
 ·have HR:Hid (Tok.nameAt s 0=none):=by show _=_;rw[HV.out,if_pos (by omega)]
  rw[HR.out];clear HV HR;go_enter Tryz.func196,Tryz.ntmps196;go_wp2_with fail
  refine (KW _).out.mono ?_;rintro e w1 ⟨rfl,hb1⟩;obtain ⟨hbw,hz,c0,c1,c2,hf⟩:=BX.out.step hb1;clear hb1;go_wp2_with fail
  exact bodyPost_ret (v:=.tuple #[.agg #[.int .i64 0,.string ⟨#[]⟩,.int .i64 0],.int .i64 0]) (by simp[results,Tryz.results196,go_sem, *]) rfl ⟨0,_,0,rfl,(by repeat (first|assumption|refine Below.setCell ?_ (by exact zL _) _))⟩
 ·cases hc:Tok.colon s.data.toList x.size with
  | true=>
   have HR:Hid (Tok.nameAt s 0=some (⟨2,x++⟨#[58]⟩,0⟩,x.size+1)):=by show _=_;rw[HV.out,if_neg (by omega),if_pos hc]
   rw[HR.out];have HX1:=zH (HX.out hc);have hl1:=HL.out hc;have KC1:=fun w=>KC true w hc
   clear HV HR HX HL KC hc;go_enter Tryz.func196,Tryz.ntmps196;go_wp2_with fail
   refine (KW _).out.mono ?_;rintro e w1 ⟨rfl,hb1⟩;have BX1:=zH (BX.out.step hb1);clear BX hb1;go_wp2_with fail
   refine (KC1 _).out.mono ?_;rintro e w2 ⟨rfl,hb2⟩;obtain ⟨hbw,hz,c0,c1,c2,hf⟩:=BX1.out.step hb2;clear hb2 BX1;go_wp2_with fail
   exact bodyPost_ret (v:=.tuple #[.agg #[.int .i64 2,.string (s.extract 0 (x.size+1)),.int .i64 0],.int .i64 ((x.size:Int)+1)]) (by simp[results,Tryz.results196,go_sem, *]) rfl ⟨by rw[HX1.out];rfl,(by repeat (first|assumption|refine Below.setCell ?_ (by exact zL _) _))⟩
  | false=>
   have HR:Hid (Tok.nameAt s 0=some (⟨if Tok.has Tok.words x=true then 8 else 1,x,0⟩,x.size)):=by show _=_;rw[HV.out,if_neg (by omega),hc];rfl
   rw[HR.out];have KC1:=fun w=>KC false w hc
   clear HV HR HX HL KC hc;cases hw:Tok.has Tok.words x with
   | true=>
    rw[hw] at KI;clear hw;go_enter Tryz.func196,Tryz.ntmps196;go_wp2_with fail
    refine (KW _).out.mono ?_;rintro e w1 ⟨rfl,hb1⟩;have BX1:=zH (BX.out.step hb1);clear BX hb1;go_wp2_with fail
    refine (KC1 _).out.mono ?_;rintro e w2 ⟨rfl,hb2⟩;have BX2:=zH (BX1.out.step hb2);clear BX1 hb2;go_wp2_with fail
    refine (KI _).out.mono ?_;rintro e w3 ⟨rfl,rfl⟩;obtain ⟨hbw,hz,c0,c1,c2,hf⟩:=BX2.out;clear BX2;go_wp2_with fail
    exact bodyPost_ret (v:=.tuple #[.agg #[.int .i64 8,.string x,.int .i64 0],.int .i64 (x.size:Int)]) (by simp[results,Tryz.results196,go_sem, *]) rfl ⟨rfl,(by repeat (first|assumption|refine Below.setCell ?_ (by exact zL _) _))⟩
   | false=>
    rw[hw] at KI;clear hw;go_enter Tryz.func196,Tryz.ntmps196;go_wp2_with fail
    refine (KW _).out.mono ?_;rintro e w1 ⟨rfl,hb1⟩;have BX1:=zH (BX.out.step hb1);clear BX hb1;go_wp2_with fail
    refine (KC1 _).out.mono ?_;rintro e w2 ⟨rfl,hb2⟩;have BX2:=zH (BX1.out.step hb2);clear BX1 hb2;go_wp2_with fail
    refine (KI _).out.mono ?_;rintro e w3 ⟨rfl,rfl⟩;obtain ⟨hbw,hz,c0,c1,c2,hf⟩:=BX2.out;clear BX2;go_wp2_with fail
    exact bodyPost_ret (v:=.tuple #[.agg #[.int .i64 1,.string x,.int .i64 0],.int .i64 (x.size:Int)]) (by simp[results,Tryz.results196,go_sem, *]) rfl ⟨rfl,(by repeat (first|assumption|refine Below.setCell ?_ (by exact zL _) _))⟩
end ImplRead
namespace ImplRead
open Go.RowKit
open Strs
theorem word_list (s:ByteArray):(s.extract 0 (Tok.run s.data.toList 0)).data.toList=s.data.toList.takeWhile Tok.alnum:=by rw[Tok.zan,List.drop_zero,Nat.sub_zero];unfold Tok.run;rw[List.drop_zero,Nat.zero_add];exact ((List.prefix_iff_eq_take).1 (List.takeWhile_prefix Tok.alnum)).symm
theorem alnum_low (c:UInt8) (h:Tok.alnum c=true):c.toNat<128:=by
 rcases Nat.lt_or_ge c.toNat 128 with h1|h1
 ·exact h1
 ·rw[ImplTok.high_not c h1] at h;cases h
theorem int_any (s:ByteArray) (w:World):
  Calls Tryz.prog 198 #[.string s] w (Tv (Tok.number s.data.toList 0) w):=by
 have KW:=fun w=>zH (ImplTok.word_any s w)
 unfold ImplTok.Word at KW
 have HV:Hid (Tok.number s.data.toList 0=(let x:=(s.extract 0 (Tok.run s.data.toList 0)).data.toList;if 9<x.length then none else if x.all Tok.digit=true then some (⟨3,ByteArray.empty,Tok.dval x⟩,x.length) else none)):=by
  show _=_
  rw[Tok.number_word,Tok.zan,List.drop_zero,Nat.sub_zero]
 have HA:Hid (∀ c∈(s.extract 0 (Tok.run s.data.toList 0)).data.toList,c.toNat<128):=by intro c hc;rw[word_list] at hc;exact alnum_low c (List.all_eq_true.1 (List.all_takeWhile (p:=Tok.alnum) (l:=s.data.toList)) c hc)
 have BX:=zH (box_new w);generalize s.extract 0 (Tok.run s.data.toList 0)=x at *;have hxl:=Tok.zaa x;simp only[hxl] at HV;by_cases h9:(9:Int)<(x.size:Int)
 ·have HR:Hid (Tok.number s.data.toList 0=none):=by show _=_;rw[HV.out,if_pos (by omega)]
  rw[HR.out];clear HV HR;go_enter Tryz.func198,Tryz.ntmps198;go_wp2_with fail
  refine (KW _).out.mono ?_;rintro e w1 ⟨rfl,hb1⟩;obtain ⟨hbw,hz,c0,c1,c2,hf⟩:=BX.out.step hb1;clear hb1;go_wp2_with fail
  exact bodyPost_ret (v:=.tuple #[.agg #[.int .i64 0,.string ⟨#[]⟩,.int .i64 0],.int .i64 0]) (by simp[results,Tryz.results198,go_sem, *]) rfl ⟨0,_,0,rfl,(by repeat (first|assumption|refine Below.setCell ?_ (by exact zL _) _))⟩
 ·have HV2:Hid (Tok.number s.data.toList 0=if x.data.toList.all Tok.digit=true then some (⟨3,ByteArray.empty,Tok.dval x.data.toList⟩,x.size) else none):=by show _=_;rw[HV.out,if_neg (by omega)]
  clear HV;go_enter Tryz.func198,Tryz.ntmps198;go_wp2_with fail
  refine (KW _).out.mono ?_;rintro e w1 ⟨rfl,hb1⟩;have BX1:=BX.out.step hb1;clear hb1 BX;go_wp2_with fail
  go_loopw [5] (fun q wr=>∃ i v:Nat,i<=x.size/\wr=w1.iter x i/\q=.int .i64 v/\v=Tok.dval (x.data.toList.take i)/\v<1000000000/\(∀ j (hj:j<x.data.toList.length),j<i->Tok.digit (x.data.toList[j]'hj)=true)) (fun _ wr=>x.size-wr.iterPos w1.heap.size)
  case atStart=>exact ⟨0,0,Nat.zero_le _,rfl,rfl,rfl,by omega,fun j hj h=>by omega⟩
  case round=>
   obtain ⟨i,v,hi,rfl,rfl,hv,hv9,hd⟩:=hrel;have HVV:=zH hv;clear hv;have HD:=zH hd;clear hd;by_cases hlt:i<x.size
   ·have hlt':i<x.data.toList.length:=by rw[hxl];exact hlt
    have hx:x.data.toList[i]'hlt'=x[i]'hlt:=rfl;have ha:(x[i]'hlt).toNat<128:=HA.out _ (by rw[<-hx];exact List.getElem_mem _);have hnx:∀ ty,(Instr.next (.pointer (some ⟨w1.heap.size,0,none⟩)) true ty).run Tryz.prog (w1.iter x i)=_:=fun ty=>run_next_ascii w1 x i ty hlt ha
    cases hdg:Tok.digit (x[i]'hlt) with
    | true=>
     have KD:=fun w=>zH (ImplTok.digit_is (x[i]'hlt) true w hdg)
     have hrange:48<=(x[i]'hlt).toNat/\(x[i]'hlt).toNat<=57:=by unfold Tok.digit at hdg;rw[Bool.and_eq_true,decide_eq_true_eq,decide_eq_true_eq] at hdg;exact hdg
     have HN:Hid (v*10+((x[i]'hlt).toNat-48)=Tok.dval (x.data.toList.take (i+1))):=by
      show _=_
      rw[List.take_succ_eq_append_getElem hlt',Tok.dval_snoc,<-HVV.out,hx];omega
     have HD2:Hid (∀ j (hj:j<x.data.toList.length),j<i+1->Tok.digit (x.data.toList[j]'hj)=true):=by
      intro j hj h;by_cases h2:j=i
      ·subst h2;exact hdg
      ·exact HD.out j hj (by omega)
     have HB:Hid (v*10+((x[i]'hlt).toNat-48)<1000000000):=by
      show _<_
      rw[HN.out]
      have h1:(x.data.toList.take (i+1)).all Tok.digit=true:=by rw[List.all_eq_true];intro c hc;obtain ⟨j,hj,rfl⟩:=List.mem_iff_getElem.1 hc;rw[List.getElem_take];rw[List.length_take] at hj;exact HD2.out j (by omega) (by omega)
      have h2:=Tok.dval_lt _ h1;have h3:(x.data.toList.take (i+1)).length<=9:=by rw[List.length_take];omega
      exact Nat.lt_of_lt_of_le h2 (Nat.pow_le_pow_right (by omega) h3)
     obtain ⟨hr1,hr2⟩:=hrange;clear hdg hx ha;generalize (x[i]'hlt).toNat=c at *;have hw1:wrap32 ((c:Int)-48)=(c:Int)-48:=by unfold wrap32;omega
     go_wp2_with fail
     refine (KD _).out.mono ?_;rintro e w2 ⟨rfl,rfl⟩;go_wp2_with fail
     go_roundw
     case rel=>exact ⟨i+1,v*10+(c-48),by omega,rfl,by go_num,HN.out,HB.out,HD2.out⟩
     case measure=>simp;omega
    | false=>
     have KD:=fun w=>zH (ImplTok.digit_is (x[i]'hlt) false w hdg)
     have HR:Hid (Tok.number s.data.toList 0=none):=by
      show _=_
      rw[HV2.out]
      have:¬x.data.toList.all Tok.digit=true:=by rw[List.all_eq_true];intro h;have:=h _ (List.getElem_mem hlt');rw[hx,hdg] at this;cases this
      rw[if_neg this]
     rw[HR.out];have hb9:Below w1.heap.size w1 (w1.iter x (i+1)):=(zB w1.heap.size w1).alloc (zL _) (.stringIter x (i+1));obtain ⟨hbw,hz,c0,c1,c2,hf⟩:=BX1.step hb9;clear hb9;clear hdg hx ha HR HV2;go_wp2_with fail
     refine (KD _).out.mono ?_;rintro e w2 ⟨rfl,rfl⟩;go_wp2_with fail
     exact bodyPost_ret (v:=.tuple #[.agg #[.int .i64 0,.string ⟨#[]⟩,.int .i64 0],.int .i64 0]) (by simp[results,Tryz.results198,go_sem, *]) rfl ⟨0,_,0,rfl,(by repeat (first|assumption|refine Below.setCell ?_ (by exact zL _) _))⟩
   ·have hall:x.data.toList.take i=x.data.toList:=List.take_of_length_le (by rw[hxl];omega)
    have HR:Hid (Tok.number s.data.toList 0=some (⟨3,ByteArray.empty,v⟩,x.size)):=by
     show _=_
     have h1:x.data.toList.all Tok.digit=true:=by rw[List.all_eq_true];intro c hc;obtain ⟨j,hj,rfl⟩:=List.mem_iff_getElem.1 hc;exact HD.out j hj (by omega)
     rw[HV2.out,if_pos h1,HVV.out,hall]
    have hnx:∀ ty,(Instr.next (.pointer (some ⟨w1.heap.size,0,none⟩)) true ty).run Tryz.prog (w1.iter x i)=_:=fun ty=>run_next_end w1 x i ty hlt
    have hb9:Below w1.heap.size w1 (w1.iter x i):=(zB w1.heap.size w1).alloc (zL _) (.stringIter x i);obtain ⟨hbw,hz,c0,c1,c2,hf⟩:=BX1.step hb9;clear hb9 HV2 hall;go_wp2_with fail
    exact bodyPost_ret (v:=.tuple #[.agg #[.int .i64 3,.string ⟨#[]⟩,.int .i64 v],.int .i64 x.size]) (by simp[results,Tryz.results198,go_sem, *]) rfl (by rw[HR.out];exact ⟨rfl,(by repeat (first|assumption|refine Below.setCell ?_ (by exact zL _) _))⟩)
end ImplRead
namespace ImplRead
open Go.RowKit
open Strs
theorem plain_low (c:UInt8) (h:Tok.plain c=true):c.toNat<128:=by unfold Tok.plain at h;rw[Bool.and_eq_true,decide_eq_true_eq,decide_eq_true_eq] at h;omega
theorem quotable_is (s:ByteArray) (b:Bool) (w:World) (hb:(s.data.toList.all Tok.plain&&decide (s.size<=40))=b):
  Calls Tryz.prog 151 #[.string s] w (ImplTok.Part b w):=by
 have HB:=zH hb;clear hb;have hsl:=Tok.zaa s;go_enter Tryz.func151,Tryz.ntmps151;go_wp2_with fail
 go_loopw [] (fun wr=>∃ i:Nat,i<=s.size/\wr=w.iter s i/\(∀ j (hj:j<s.data.toList.length),j<i->Tok.plain (s.data.toList[j]'hj)=true)) (fun wr=>s.size-wr.iterPos w.heap.size)
 case atStart=>exact ⟨0,Nat.zero_le _,rfl,fun j hj h=>by omega⟩
 case round=>
  obtain ⟨i,hi,rfl,hd⟩:=hrel;have HD:=zH hd;clear hd;by_cases hlt:i<s.size
  ·have hlt':i<s.data.toList.length:=by rw[hsl];exact hlt
   have hx:s.data.toList[i]'hlt'=s[i]'hlt:=rfl
   have HF:Hid (Tok.plain (s[i]'hlt)=false->(s.data.toList.all Tok.plain&&decide (s.size<=40))=false):=by
    intro h
    have:s.data.toList.all Tok.plain=false:=by rw[<-Bool.not_eq_true,List.all_eq_true];intro h2;have h3:=h2 _ (List.getElem_mem hlt');rw[hx,h] at h3;cases h3
    rw[this];rfl
   by_cases ha:(s[i]'hlt).toNat<128
   ·have hnx:∀ ty,(Instr.next (.pointer (some ⟨w.heap.size,0,none⟩)) true ty).run Tryz.prog (w.iter s i)=_:=fun ty=>run_next_ascii w s i ty hlt ha
    have HP:Hid (Tok.plain (s[i]'hlt)=(decide (32<=(s[i]'hlt).toNat)&&decide ((s[i]'hlt).toNat<=126))):=rfl
    have HD2:Hid (Tok.plain (s[i]'hlt)=true->∀ j (hj:j<s.data.toList.length),j<i+1->Tok.plain (s.data.toList[j]'hj)=true):=by
     intro h0 j hj h;by_cases h2:j=i
     ·subst h2;exact h0
     ·exact HD.out j hj (by omega)
    generalize (s[i]'hlt)=c at *;by_cases h1:(c.toNat:Int)<32
    ·have HE:Hid (b=false):=HB.out.symm.trans (HF.out (by rw[HP.out,decide_eq_false (by omega:¬32<=c.toNat)];rfl))
     clear HF HP HD2 hx ha;go_wp2_with fail
     go_ret;exact ⟨by rw[HE.out];rfl,(zB _ _).alloc (zL _) _⟩
    ·by_cases h2:(126:Int)<(c.toNat:Int)
     ·have HE:Hid (b=false):=HB.out.symm.trans (HF.out (by rw[HP.out,decide_eq_false (by omega:¬c.toNat<=126),Bool.and_false]))
      clear HF HP HD2 hx ha;go_wp2_with fail
      go_ret;exact ⟨by rw[HE.out];rfl,(zB _ _).alloc (zL _) _⟩
     ·have HE:=zH (HD2.out (by rw[HP.out,decide_eq_true (by omega:32<=c.toNat),decide_eq_true (by omega:c.toNat<=126)];rfl))
      clear HF HP HD2 hx ha;go_wp2_with fail
      go_roundw
      case rel=>exact ⟨i+1,by omega,rfl,HE.out⟩
      case measure=>simp;omega
   ·have hnx:∀ ty,(Instr.next (.pointer (some ⟨w.heap.size,0,none⟩)) true ty).run Tryz.prog (w.iter s i)=_:=fun ty=>run_next_any w s i ty hlt
    have hdh:=(decode_high s i hlt (by omega)).1
    have HE:Hid (b=false):=HB.out.symm.trans (HF.out (by rw[<-Bool.not_eq_true];intro h;exact ha (plain_low _ h)))
    generalize (Utf8.decode s i).1=n at *;generalize (Utf8.decode s i).2=m at *;have h1:¬(n:Int)<32:=by omega
    have h2:(126:Int)<(n:Int):=by omega
    clear HF hx ha;go_wp2_with fail
    go_ret;exact ⟨by rw[HE.out];rfl,(zB _ _).alloc (zL _) _⟩
  ·have hnx:∀ ty,(Instr.next (.pointer (some ⟨w.heap.size,0,none⟩)) true ty).run Tryz.prog (w.iter s i)=_:=fun ty=>run_next_end w s i ty hlt
   have HE:Hid (b=decide ((s.size:Int)<=40)):=by
    show _=_
    rw[<-HB.out]
    have h1:s.data.toList.all Tok.plain=true:=by rw[List.all_eq_true];intro c hc;obtain ⟨j,hj,rfl⟩:=List.mem_iff_getElem.1 hc;exact HD.out j hj (by omega)
    rw[h1,Bool.true_and,Bool.eq_iff_iff,decide_eq_true_eq,decide_eq_true_eq];omega
   go_wp2_with fail
   go_ret;exact ⟨by rw[HE.out];rfl,(zB _ _).alloc (zL _) _⟩
theorem qlen_end (l:List UInt8) (p:Nat) (h:¬l.head?=some 39):Tok.qlen (39::l) p true=p+1:=by rw[Tok.qlen];exact if_pos ⟨by decide,h⟩
theorem quote_next (s:ByteArray) (i:Nat):Lib.hasPrefix (s.extract (i+1) s.size).data.toList (⟨#[39]⟩:ByteArray).data.toList=decide ((s.data.toList.drop (i+1)).head?=some 39):=by
 rw[show s.extract (i+1) s.size=Tok.rest s (i+1) from rfl,Tok.za5]
 generalize s.data.toList.drop (i+1)=l;unfold Lib.hasPrefix;cases l with
 | nil=>rfl
 | cons c l=>
  rw[Bool.eq_iff_iff,decide_eq_true_eq,List.isPrefixOf_iff_prefix];show [39] <+: c::l↔_
  rw[List.cons_prefix_cons];simp[eq_comm]
theorem quoted_len (s:ByteArray) (w:World) (hs:s.size<=1048576) (h0:∀ h:0<s.size,(s[0]'h).toNat=39):
  Calls Tryz.prog 231 #[.string s] w fun e w'=>e=.returned (.int .i64 (Tok.qlen s.data.toList 0 false:Nat))/\Below w.heap.size w w':=by
 have hsl:=Tok.zaa s
 have KP:∀ i w,Hid (Calls Tryz.prog 249 #[.string (s.extract (i+1) s.size),.string ⟨#[39]⟩] w fun e w'=>e=.returned (.bool (decide ((s.data.toList.drop (i+1)).head?=some 39)))/\w'=w):=fun i w=>by have h:=Shelf.strings_HasPrefix (s.extract (i+1) s.size) ⟨#[39]⟩ w;rw[quote_next] at h;exact h
 have H0:=zH h0;clear h0;go_enter Tryz.func231,Tryz.ntmps231;go_wp2_with fail
 go_loopw [3] (fun v wr=>∃ (i:Nat) (o:Bool),i<=s.size/\wr=w.iter s i/\v=.bool o/\Tok.qlen s.data.toList 0 false=Tok.qlen (s.data.toList.drop i) i o/\(o=false->∀ h:i<s.size,(s[i]'h).toNat=39)) (fun _ wr=>s.size-wr.iterPos w.heap.size)
 case atStart=>exact ⟨0,false,Nat.zero_le _,rfl,rfl,rfl,fun _ h=>H0.out h⟩
 case round=>
  obtain ⟨i,o,hi,rfl,rfl,hq,ho⟩:=hrel;have HQ:=zH hq;clear hq;by_cases hlt:i<s.size
  ·have hlt':i<s.data.toList.length:=by rw[hsl];exact hlt
   have hx:s.data.toList[i]'hlt'=s[i]'hlt:=rfl;have HC:Hid (s.data.toList.drop i=s[i]'hlt::s.data.toList.drop (i+1)):=by show _=_;rw[List.drop_eq_getElem_cons hlt',hx]
   by_cases ha:(s[i]'hlt).toNat<128
   ·have hnx:∀ ty,(Instr.next (.pointer (some ⟨w.heap.size,0,none⟩)) true ty).run Tryz.prog (w.iter s i)=_:=fun ty=>run_next_ascii w s i ty hlt ha
    have KP1:=KP i;by_cases h39:(s[i]'hlt).toNat=39
    ·have hc39:s[i]'hlt=(39:UInt8):=UInt8.toNat_inj.1 (by rw[h39];rfl)
     have t39:(((s[i]'hlt).toNat:Int)==39)=true:=by rw[beq_iff_eq];omega
     cases o with
     | true=>
      by_cases hh:(s.data.toList.drop (i+1)).head?=some 39
      ·have HQ2:Hid (Tok.qlen s.data.toList 0 false=Tok.qlen (s.data.toList.drop (i+1)) (i+1) false):=by
        show _=_
        rw[HQ.out,HC.out,hc39,Tok.qlen];simp[hh]
       have HO:Hid (∀ h:i+1<s.size,(s[i+1]'h).toNat=39):=by intro h;rw[List.head?_drop,List.getElem?_eq_getElem (by rw[hsl];exact h),Option.some.injEq] at hh;have:s[i+1]'h=39:=hh;rw[this];rfl
       rw[decide_eq_true hh] at KP1;clear hh hc39 hx HC ha h39 ho;go_wp2_with fail
       refine (KP1 _).out.mono ?_;rintro e w2 ⟨rfl,rfl⟩;go_wp2_with fail
       go_roundw
       case rel=>exact ⟨i+1,false,by omega,rfl,rfl,HQ2.out,fun _=>HO.out⟩
       case measure=>simp;omega
      ·have HQ2:Hid (Tok.qlen s.data.toList 0 false=i+1):=by
        show _=_
        rw[HQ.out,HC.out,hc39];exact qlen_end _ _ hh
       rw[decide_eq_false hh] at KP1;clear hh hc39 hx HC ha h39 ho;go_wp2_with fail
       refine (KP1 _).out.mono ?_;rintro e w2 ⟨rfl,rfl⟩;go_wp2_with fail
       go_ret;exact ⟨by rw[HQ2.out];rfl,(zB _ _).alloc (zL _) _⟩
     | false=>
      have HQ2:Hid (Tok.qlen s.data.toList 0 false=Tok.qlen (s.data.toList.drop (i+1)) (i+1) true):=by
       show _=_
       rw[HQ.out,HC.out,hc39,Tok.qlen];simp
      clear hc39 hx HC ha h39 ho;go_wp2_with fail
      go_roundw
      case rel=>exact ⟨i+1,true,by omega,rfl,rfl,HQ2.out,fun h=>by cases h⟩
      case measure=>simp;omega
    ·have t39:(((s[i]'hlt).toNat:Int)==39)=false:=by rw[beq_eq_false_iff_ne];omega
     have hne:¬s[i]'hlt=(39:UInt8):=fun h=>h39 (by rw[h];rfl)
     have hot:o=true:=by
      cases o with
      | true=>rfl
      | false=>exact absurd (ho rfl hlt) h39
     subst hot
     have HQ2:Hid (Tok.qlen s.data.toList 0 false=Tok.qlen (s.data.toList.drop (i+1)) (i+1) true):=by
      show _=_
      rw[HQ.out,HC.out,Tok.qlen];simp[hne]
     clear hne hx HC ha h39 ho;go_wp2_with fail
     go_roundw
     case rel=>exact ⟨i+1,true,by omega,rfl,rfl,HQ2.out,fun h=>by cases h⟩
     case measure=>simp;omega
   ·have hnx:∀ ty,(Instr.next (.pointer (some ⟨w.heap.size,0,none⟩)) true ty).run Tryz.prog (w.iter s i)=_:=fun ty=>run_next_any w s i ty hlt
    have hdh:=decode_high s i hlt (by omega);have hwide:=Tok.decode_wide s i hlt (by omega)
    have hot:o=true:=by
     cases o with
     | true=>rfl
     | false=>have:=ho rfl hlt;omega
    subst hot;obtain ⟨hd1,hd2⟩:=hdh;generalize (Utf8.decode s i).1=n at *;generalize (Utf8.decode s i).2=m at *
    have him:i+m<=s.size:=by obtain ⟨h1,_⟩:=hwide (m-1) (by omega);omega
    have HQ2:Hid (Tok.qlen s.data.toList 0 false=Tok.qlen (s.data.toList.drop (i+m)) (i+m) true):=by
     show _=_
     rw[HQ.out];refine Tok.qlen_pass s.data.toList m i (fun j hj=>?_)
     obtain ⟨h1,h2⟩:=hwide j hj;exact ⟨by rw[hsl];exact h1,h2⟩
    have t39:((n:Int)==39)=false:=by rw[beq_eq_false_iff_ne];omega
    clear hx HC ha ho hwide;go_wp2_with fail
    go_roundw
    case rel=>exact ⟨i+m,true,him,rfl,rfl,HQ2.out,fun h=>by cases h⟩
    case measure=>simp;omega
  ·have hnx:∀ ty,(Instr.next (.pointer (some ⟨w.heap.size,0,none⟩)) true ty).run Tryz.prog (w.iter s i)=_:=fun ty=>run_next_end w s i ty hlt
   have HQ2:Hid (Tok.qlen s.data.toList 0 false=0):=by
    show _=_
    rw[HQ.out,List.drop_of_length_le (by omega)];rfl
   go_wp2_with fail
   go_ret;exact ⟨by rw[HQ2.out];rfl,(zB _ _).alloc (zL _) _⟩
end ImplRead
namespace ImplRead
open Go.RowKit
open Strs
theorem text_any (s:ByteArray) (w:World) (hM:Max w) (hs:s.size<=1048576) (hp:0<s.size) (h0:(s[0]'hp).toNat=39):
  Calls Tryz.prog 199 #[.string s] w (Tv (Tok.quoted s.data.toList 0) w):=by
 have hsl:=Tok.zaa s;have KQ:=fun w=>zH (quoted_len s w hs (fun _=>h0))
 have h39:s[0]'hp=(39:UInt8):=UInt8.toNat_inj.1 (by rw[h0];rfl)
 obtain ⟨l,hl⟩:∃ l,s.data.toList=39::l:=by
  have h1:0<s.data.toList.length:=by rw[hsl];exact hp
  refine ⟨s.data.toList.drop 1,?_⟩;have h2:=List.drop_eq_getElem_cons h1;rw[List.drop_zero] at h2;have h3:s.data.toList[0]'h1=39:=h39;rw[h3] at h2;exact h2
 have hq:Tok.qlen s.data.toList 0 false=match Tok.unq l with|none=>0|some x=>1+x.2:=by rw[hl,Tok.qlen];simp only[if_true,Bool.not_false,Bool.true_eq_false,false_and,if_false,Nat.zero_add];exact Tok.qlen_unq l 1
 have HV:Hid (Tok.quoted s.data.toList 0=match Tok.unq l with|none=>none|some x=>if x.1.all Tok.plain=true/\x.1.length<=40 then some (⟨4,⟨x.1.toArray⟩,0⟩,1+x.2) else none):=by
  show _=_
  rw[hl];exact Tok.quoted_unq 39 l
 have BX:=zH (box_new w);cases hu:Tok.unq l with
 | none=>
  rw[hu] at hq;simp only at hq;rw[hq] at KQ;have HR:Hid (Tok.quoted s.data.toList 0=none):=by show _=_;rw[HV.out,hu]
  rw[HR.out];clear HV hu hq hl h39 h0 HR;go_enter Tryz.func199,Tryz.ntmps199;go_wp2_with fail
  refine (KQ _).out.mono ?_;rintro e w1 ⟨rfl,hb1⟩;obtain ⟨hbw,hz,c0,c1,c2,hf⟩:=BX.out.step hb1;clear hb1;go_wp2_with fail
  exact bodyPost_ret (v:=.tuple #[.agg #[.int .i64 0,.string ⟨#[]⟩,.int .i64 0],.int .i64 0]) (by simp[results,Tryz.results199,go_sem, *]) rfl ⟨0,_,0,rfl,(by repeat (first|assumption|refine Below.setCell ?_ (by exact zL _) _))⟩
 | some x=>
  obtain ⟨o,n⟩:=x;obtain ⟨hn1,hn2,hrep⟩:=Tok.unq_rep l o n hu;rw[hu] at hq;simp only at hq;rw[hq] at KQ;have hll:l.length+1=s.size:=by rw[<-hsl,hl];rfl
  have HT:Hid (Lib.replaceAll (s.extract 1 n).data.toList (⟨#[39,39]⟩:ByteArray).data.toList (⟨#[39]⟩:ByteArray).data.toList=o):=by
   show _=_
   rw[Tok.zan,hl];exact hrep
  have hts:(s.extract 1 n).size<=1048576:=by rw[<-Tok.zaa,Tok.zan,List.length_take];omega
  have KR:=fun w h=>zH (rep_any (s.extract 1 n) ⟨#[39,39]⟩ ⟨#[39]⟩ w h hts (by decide) (by decide))
  simp only[HT.out] at KR;have HV2:Hid (Tok.quoted s.data.toList 0=if o.all Tok.plain=true/\o.length<=40 then some (⟨4,⟨o.toArray⟩,0⟩,1+n) else none):=by show _=_;rw[HV.out,hu]
  have KI:=fun b w h=>zH (quotable_is (⟨o.toArray⟩:ByteArray) b w h)
  have hos:(⟨o.toArray⟩:ByteArray).size=o.length:=by rw[<-Tok.zaa]
  simp only[hos] at KI;have e1:(((1+n:Nat):Int)==0)=false:=by rw[beq_eq_false_iff_ne];omega
  have e2:((1+n:Nat):Int)-1=(n:Int):=by omega
  clear HV hu hq hl h39 h0 HT hrep;by_cases hok:o.all Tok.plain=true/\o.length<=40
  ·have HR:Hid (Tok.quoted s.data.toList 0=some (⟨4,⟨o.toArray⟩,0⟩,1+n)):=by show _=_;rw[HV2.out,if_pos hok]
   have KI1:=fun w=>KI true w (by show (o.all Tok.plain&&decide (o.length<=40))=true;rw[hok.1,decide_eq_true hok.2];rfl)
   rw[HR.out];clear HV2 KI hok HR;generalize (⟨o.toArray⟩:ByteArray)=x at *;go_enter Tryz.func199,Tryz.ntmps199;go_wp2_with fail
   refine (KQ _).out.mono ?_;rintro e w1 ⟨rfl,hb1⟩;have BX1:=zH (BX.out.step hb1);have HM1:Hid (Max w1):=(hM.keep ((zB _ _).alloc (zL _) _)).keep hb1;clear BX hb1;go_wp2_with fail
   refine (KR _ HM1.out).out.mono ?_;rintro e w2 ⟨rfl,hb2⟩;have BX2:=zH (BX1.out.step hb2);clear BX1 hb2;go_wp2_with fail
   refine (KI1 _).out.mono ?_;rintro e w3 ⟨rfl,hb3⟩;obtain ⟨hbw,hz,c0,c1,c2,hf⟩:=BX2.out.step hb3;clear hb3 BX2;go_wp2_with fail
   exact bodyPost_ret (v:=.tuple #[.agg #[.int .i64 4,.string x,.int .i64 0],.int .i64 (1+(n:Int))]) (by simp[results,Tryz.results199,go_sem, *]) rfl ⟨rfl,(by repeat (first|assumption|refine Below.setCell ?_ (by exact zL _) _))⟩
  ·have HR:Hid (Tok.quoted s.data.toList 0=none):=by show _=_;rw[HV2.out,if_neg hok]
   have KI1:=fun w=>KI false w (by
    show (o.all Tok.plain&&decide (o.length<=40))=false
    rw[<-Bool.not_eq_true,Bool.and_eq_true,decide_eq_true_eq];exact hok)
   rw[HR.out];clear HV2 KI hok HR;generalize (⟨o.toArray⟩:ByteArray)=x at *;go_enter Tryz.func199,Tryz.ntmps199;go_wp2_with fail
   refine (KQ _).out.mono ?_;rintro e w1 ⟨rfl,hb1⟩;have BX1:=zH (BX.out.step hb1);have HM1:Hid (Max w1):=(hM.keep ((zB _ _).alloc (zL _) _)).keep hb1;clear BX hb1;go_wp2_with fail
   refine (KR _ HM1.out).out.mono ?_;rintro e w2 ⟨rfl,hb2⟩;have BX2:=zH (BX1.out.step hb2);clear BX1 hb2;go_wp2_with fail
   refine (KI1 _).out.mono ?_;rintro e w3 ⟨rfl,hb3⟩;obtain ⟨hbw,hz,c0,c1,c2,hf⟩:=BX2.out.step hb3;clear hb3 BX2;go_wp2_with fail
   exact bodyPost_ret (v:=.tuple #[.agg #[.int .i64 0,.string ⟨#[]⟩,.int .i64 0],.int .i64 0]) (by simp[results,Tryz.results199,go_sem, *]) rfl ⟨0,_,0,rfl,(by repeat (first|assumption|refine Below.setCell ?_ (by exact zL _) _))⟩
theorem piece_word (s:ByteArray) (e:Nat):(s.extract e s.size).extract 0 (Tok.run (s.extract e s.size).data.toList 0)=s.extract e (Tok.run s.data.toList e):=by have h:=Tok.run_rest s.data.toList e 0;rw[Nat.add_zero] at h;rw[show s.extract e s.size=Tok.rest s e from rfl,Tok.extract_rest,Tok.za5,<-h,Nat.add_zero]
theorem word_at (s:ByteArray) (e:Nat) (w:World):
  Calls Tryz.prog 223 #[.string (s.extract e s.size)] w fun e' w'=>e'=.returned (.string (s.extract e (Tok.run s.data.toList e)))/\Below w.heap.size w w':=by
 have h:=ImplTok.word_any (s.extract e s.size) w;unfold ImplTok.Word at h;rw[piece_word] at h;exact h
end ImplRead
namespace ImplRead
open Go.RowKit
open Strs
theorem selector_any (s:ByteArray) (w:World) (hs:s.size<=1048576):
  Calls Tryz.prog 233 #[.string s] w fun e w'=>e=.returned (.string (s.extract 0 (Tok.selLen s.data.toList)))/\Below w.heap.size w w':=by
 have hsl:=Tok.zaa s;have HV:Hid (Tok.selLen s.data.toList=if Tok.selGo s.data.toList (s.data.toList.length+1) 0=0 then Tok.run s.data.toList 0 else Tok.selGo s.data.toList (s.data.toList.length+1) 0):=rfl
 have KW:=fun e w=>zH (word_at s e w)
 have KC:=fun e b w h=>zH (colon_at s e b w h)
 have KZ:=fun w=>zH (ImplTok.word_any s w)
 unfold ImplTok.Word at KZ;go_enter Tryz.func233,Tryz.ntmps233;go_wp2_with fail
 go_loopw [3] (fun v wr=>∃ f e:Nat,e<=s.size/\s.size<f+e/\v=.int .i64 e/\Tok.selGo s.data.toList (s.data.toList.length+1) 0=Tok.selGo s.data.toList f e/\Below w.heap.size w wr) (fun v _=>s.size-(intOf v).toNat)
 case atStart=>exact ⟨s.data.toList.length+1,0,Nat.zero_le _,by omega,rfl,rfl,zB _ _⟩
 case round=>
  obtain ⟨f,e,hel,hfe,rfl,hg,hbw⟩:=hrel;have HG:=zH hg;clear hg;obtain ⟨f,rfl⟩:∃ g,f=g+1:=⟨f-1,by have:=HG;omega⟩
  have hr:=Tok.run_le s.data.toList e (by rw[hsl];exact hel);rw[hsl] at hr;have KW1:=fun w=>KW e w
  have KC1:=fun b w h=>KC (Tok.run s.data.toList e) b w h
  have hxs:(s.extract e (Tok.run s.data.toList e)).size=Tok.run s.data.toList e-e:=by rw[<-Tok.zaa,Tok.zan,List.length_take,List.length_drop,hsl];omega
  by_cases hre:Tok.run s.data.toList e=e
  ·have hx:((s.extract e (Tok.run s.data.toList e)).toList==[])=true:=by
    rw[ByteArray.toList_eq,beq_iff_eq];exact List.eq_nil_of_length_eq_zero (by rw[Tok.zaa,hxs];omega)
   have HS:Hid (Tok.selGo s.data.toList (s.data.toList.length+1) 0=e):=HG.out.trans (Tok.selGo_stop _ _ _ (fun h=>by omega))
   by_cases he:e=0
   ·have HR:Hid (s.extract 0 (Tok.selLen s.data.toList)=s.extract 0 (Tok.run s.data.toList 0)):=by show _=_;rw[HV.out,if_pos (by rw[HS.out];exact he)]
    have e0:((e:Int)==0)=true:=by rw[beq_iff_eq];omega
    clear HG HS he;clear KC1 KC HV;generalize s.extract e (Tok.run s.data.toList e)=x at *;go_wp2_with fail
    refine (KW1 _).out.mono ?_;rintro e' w3 ⟨rfl,hb3⟩;have HB3:=hbw.trans (hb3.mono hbw.size);clear hb3 hbw;go_wp2_with fail
    refine (KZ _).out.mono ?_;rintro e' w5 ⟨rfl,hb5⟩;go_wp2_with fail
    go_ret;exact ⟨by rw[HR.out];rfl,HB3.trans (hb5.mono HB3.size)⟩
   ·have HR:Hid (s.extract 0 (Tok.selLen s.data.toList)=s.extract 0 e):=by
     show _=_
     rw[HV.out,if_neg (by rw[HS.out];exact he),HS.out]
    have e0:((e:Int)==0)=false:=by rw[beq_eq_false_iff_ne];omega
    clear HG HS he;clear KC1 KC HV;generalize s.extract e (Tok.run s.data.toList e)=x at *;go_wp2_with fail
    refine (KW1 _).out.mono ?_;rintro e' w3 ⟨rfl,hb3⟩;have HB3:=hbw.trans (hb3.mono hbw.size);clear hb3 hbw;go_wp2_with fail
    go_ret;exact ⟨by rw[HR.out];rfl,HB3⟩
  ·have hlt:e<Tok.run s.data.toList e:=by omega
   have hx:((s.extract e (Tok.run s.data.toList e)).toList==[])=false:=by rw[ByteArray.toList_eq,beq_eq_false_iff_ne];intro h;have h2:=congrArg List.length h;rw[Tok.zaa,hxs] at h2;simp at h2;omega
   cases hc:Tok.colon s.data.toList (Tok.run s.data.toList e) with
   | true=>
    have KC2:=fun w=>KC1 true w hc
    have hcl:=Tok.colon_lt _ _ hc;rw[hsl] at hcl;have HG2:Hid (Tok.selGo s.data.toList (s.data.toList.length+1) 0=Tok.selGo s.data.toList f (Tok.run s.data.toList e+1)):=HG.out.trans (Tok.selGo_go _ _ _ ⟨hlt,hc⟩);clear KC1 KC hc HG;generalize Tok.run s.data.toList e=r at *;generalize s.extract e r=x at *;have hxi:(e:Int)+(x.size:Int)=(r:Int):=by omega
    go_wp2_with fail
    refine (KW1 _).out.mono ?_;rintro e' w3 ⟨rfl,hb3⟩;have HB3:=hbw.trans (hb3.mono hbw.size);go_wp2_with fail
    refine (KC2 _).out.mono ?_;rintro e' w4 ⟨rfl,hb4⟩;have HB4:=HB3.trans (hb4.mono HB3.size);clear hb3 hb4 HB3;go_wp2_with fail
    go_roundw
    case rel=>exact ⟨f,r+1,by omega,by omega,by first|go_num|(congr 1;omega),HG2.out,HB4⟩
    case measure=>simp[intOf];omega
   | false=>
    have KC2:=fun w=>KC1 false w hc
    have HS:Hid (Tok.selGo s.data.toList (s.data.toList.length+1) 0=e):=HG.out.trans (Tok.selGo_stop _ _ _ (fun h=>by rw[hc] at h;cases h.2))
    by_cases he:e=0
    ·have HR:Hid (s.extract 0 (Tok.selLen s.data.toList)=s.extract 0 (Tok.run s.data.toList 0)):=by show _=_;rw[HV.out,if_pos (by rw[HS.out];exact he)]
     have e0:((e:Int)==0)=true:=by rw[beq_iff_eq];omega
     clear HG HS he;clear KC1 KC HV hc;generalize Tok.run s.data.toList e=r at *;generalize s.extract e r=x at *;have hxi:(e:Int)+(x.size:Int)=(r:Int):=by omega
     go_wp2_with fail
     refine (KW1 _).out.mono ?_;rintro e' w3 ⟨rfl,hb3⟩;have HB3:=hbw.trans (hb3.mono hbw.size);clear hb3 hbw;go_wp2_with fail
     refine (KC2 _).out.mono ?_;rintro e' w4 ⟨rfl,hb4⟩;have HB4:=HB3.trans (hb4.mono HB3.size);clear HB3 hb4;go_wp2_with fail
     refine (KZ _).out.mono ?_;rintro e' w5 ⟨rfl,hb5⟩;go_wp2_with fail
     go_ret;exact ⟨by rw[HR.out];rfl,HB4.trans (hb5.mono HB4.size)⟩
    ·have HR:Hid (s.extract 0 (Tok.selLen s.data.toList)=s.extract 0 e):=by
      show _=_
      rw[HV.out,if_neg (by rw[HS.out];exact he),HS.out]
     have e0:((e:Int)==0)=false:=by rw[beq_eq_false_iff_ne];omega
     clear HG HS he;clear KC1 KC HV hc;generalize Tok.run s.data.toList e=r at *;generalize s.extract e r=x at *;have hxi:(e:Int)+(x.size:Int)=(r:Int):=by omega
     go_wp2_with fail
     refine (KW1 _).out.mono ?_;rintro e' w3 ⟨rfl,hb3⟩;have HB3:=hbw.trans (hb3.mono hbw.size);clear hb3 hbw;go_wp2_with fail
     refine (KC2 _).out.mono ?_;rintro e' w4 ⟨rfl,hb4⟩;have HB4:=HB3.trans (hb4.mono HB3.size);clear HB3 hb4;go_wp2_with fail
     go_ret;exact ⟨by rw[HR.out];rfl,HB4⟩
end ImplRead
namespace ImplRead
open Go.RowKit
open Strs
theorem symbol_any (s:ByteArray) (w:World) (hs:s.size<=1048576) (hp:0<s.size):
  Calls Tryz.prog 200 #[.string s] w (Tv (Tok.selectorAt s 1) w):=by
 have HV:=zH (Tok.selector_read s hp);have hxz:(Tok.rest s 1).size<=1048576:=by rw[Tok.rest_size];omega
 have hX:s.extract 1 s.size=Tok.rest s 1:=rfl;generalize Tok.rest s 1=x at *;have HP:Hid (Tok.pick x=if (Tok.starts x 0 Tok.binaries).toList.isEmpty=false then Tok.starts x 0 Tok.binaries else x.extract 0 (Tok.selLen x.data.toList)):=rfl
 have KS:=fun v w h=>zH (ImplSigns.sign_any x v Tok.binaries w h)
 have KL:=fun w=>zH (selector_any x w hxz)
 have hop:(Tok.starts x 0 Tok.binaries).size<=1048576:=Tok.zay x 0 Tok.binaries _ (by intro y hy;simp only[Tok.binaries,List.mem_cons,List.not_mem_nil,or_false] at hy;rcases hy with rfl|rfl|rfl|rfl|rfl|rfl|rfl|rfl|rfl|rfl|rfl|rfl|rfl|rfl|rfl<;>(show _<=_;simp[ByteArray.size]))
 have hsl:(x.extract 0 (Tok.selLen x.data.toList)).size<=1048576:=by rw[<-Tok.zaa,Tok.zan,List.length_take,List.length_drop,Tok.zaa];omega
 generalize Tok.starts x 0 Tok.binaries=op at *;generalize x.extract 0 (Tok.selLen x.data.toList)=y at *;have BX:=zH (box_new w);have hpi:(1:Int)<=(s.size:Int):=by omega
 by_cases he:op.toList.isEmpty=false
 ·have hP:Tok.pick x=op:=HP.out.trans (if_pos he)
  rw[hP] at HV;have KI:=fun w=>zH (ImplCount.sel_any op w hop)
  have hne:(op.toList==[])=false:=by rw[beq_eq_false_iff_ne];intro h;rw[h] at he;cases he
  clear HP hP he KL hsl;cases hsel:Tok.sel op with
  | true=>
   rw[hsel] at KI;rw[HV.out,hsel];clear hsel HV;go_enter Tryz.func200,Tryz.ntmps200;go_wp2_with fail
   obtain ⟨W,hW,BXW⟩:∃ W,W=(w.alloc (.cells #[.int .i64 0,.string ⟨#[]⟩,.int .i64 0] 82))/\Box w w.heap.size W:=⟨_,rfl,BX.out⟩;rw[<-hW];clear hW BX
   go_region_held3 (fun w'=>Box w w.heap.size w')
    (first|exact BXW.step (zB _ _).drew|exact (BXW.step (zB _ _).drew).step hb3|go_keep)
    (first|(go_at_call 221;refine (ImplSigns.zae _).mono ?_;rintro e' w3 ⟨la,lc,rfl,hat,hb3⟩)|(go_at_call 220;refine (KS _ _ hat).out.mono ?_;rintro e' w4 ⟨rfl,rfl⟩))
   have BX3:=zH ((BXW.step (zB _ _).drew).step hb3);clear hat hb3 BXW KS;go_wp2_with fail
   refine (KI _).out.mono ?_;rintro e w5 ⟨rfl,hb5⟩;obtain ⟨hbw,hz,c0,c1,c2,hf⟩:=BX3.out.step hb5;clear hb5 BX3;go_wp2_with fail
   exact bodyPost_ret (v:=.tuple #[.agg #[.int .i64 5,.string op,.int .i64 0],.int .i64 (1+(op.size:Int))]) (by simp[results,Tryz.results200,go_sem, *]) rfl ⟨rfl,(by repeat (first|assumption|refine Below.setCell ?_ (by exact zL _) _))⟩
  | false=>
   rw[hsel] at KI;rw[HV.out,hsel];clear hsel HV;go_enter Tryz.func200,Tryz.ntmps200;go_wp2_with fail
   obtain ⟨W,hW,BXW⟩:∃ W,W=(w.alloc (.cells #[.int .i64 0,.string ⟨#[]⟩,.int .i64 0] 82))/\Box w w.heap.size W:=⟨_,rfl,BX.out⟩;rw[<-hW];clear hW BX
   go_region_held3 (fun w'=>Box w w.heap.size w')
    (first|exact BXW.step (zB _ _).drew|exact (BXW.step (zB _ _).drew).step hb3|go_keep)
    (first|(go_at_call 221;refine (ImplSigns.zae _).mono ?_;rintro e' w3 ⟨la,lc,rfl,hat,hb3⟩)|(go_at_call 220;refine (KS _ _ hat).out.mono ?_;rintro e' w4 ⟨rfl,rfl⟩))
   have BX3:=zH ((BXW.step (zB _ _).drew).step hb3);clear hat hb3 BXW KS;go_wp2_with fail
   refine (KI _).out.mono ?_;rintro e w5 ⟨rfl,hb5⟩;obtain ⟨hbw,hz,c0,c1,c2,hf⟩:=BX3.out.step hb5;clear hb5 BX3;go_wp2_with fail
   exact bodyPost_ret (v:=.tuple #[.agg #[.int .i64 0,.string ⟨#[]⟩,.int .i64 0],.int .i64 0]) (by simp[results,Tryz.results200,go_sem, *]) rfl ⟨0,_,0,rfl,(by repeat (first|assumption|refine Below.setCell ?_ (by exact zL _) _))⟩
 ·have hP:Tok.pick x=y:=HP.out.trans (if_neg he)
  rw[hP] at HV;have KI:=fun w=>zH (ImplCount.sel_any y w hsl)
  have hne:(op.toList==[])=true:=by rw[Bool.not_eq_false,List.isEmpty_iff] at he;rw[he];rfl
  clear HP hP he;cases hsel:Tok.sel y with
  | true=>
   rw[hsel] at KI;rw[HV.out,hsel];clear hsel HV;go_enter Tryz.func200,Tryz.ntmps200;go_wp2_with fail
   obtain ⟨W,hW,BXW⟩:∃ W,W=(w.alloc (.cells #[.int .i64 0,.string ⟨#[]⟩,.int .i64 0] 82))/\Box w w.heap.size W:=⟨_,rfl,BX.out⟩;rw[<-hW];clear hW BX
   go_region_held3 (fun w'=>Box w w.heap.size w')
    (first|exact BXW.step (zB _ _).drew|exact (BXW.step (zB _ _).drew).step hb3|go_keep)
    (first|(go_at_call 221;refine (ImplSigns.zae _).mono ?_;rintro e' w3 ⟨la,lc,rfl,hat,hb3⟩)|(go_at_call 220;refine (KS _ _ hat).out.mono ?_;rintro e' w4 ⟨rfl,rfl⟩))
   have BX3:=zH ((BXW.step (zB _ _).drew).step hb3);clear hat hb3 BXW KS;go_wp2_with fail
   refine (KL _).out.mono ?_;rintro e w4 ⟨rfl,hb4⟩;have BX4:=zH (BX3.out.step hb4);clear BX3 hb4;go_wp2_with fail
   refine (KI _).out.mono ?_;rintro e w5 ⟨rfl,hb5⟩;obtain ⟨hbw,hz,c0,c1,c2,hf⟩:=BX4.out.step hb5;clear hb5 BX4;go_wp2_with fail
   exact bodyPost_ret (v:=.tuple #[.agg #[.int .i64 5,.string y,.int .i64 0],.int .i64 (1+(y.size:Int))]) (by simp[results,Tryz.results200,go_sem, *]) rfl ⟨rfl,(by repeat (first|assumption|refine Below.setCell ?_ (by exact zL _) _))⟩
  | false=>
   rw[hsel] at KI;rw[HV.out,hsel];clear hsel HV;go_enter Tryz.func200,Tryz.ntmps200;go_wp2_with fail
   obtain ⟨W,hW,BXW⟩:∃ W,W=(w.alloc (.cells #[.int .i64 0,.string ⟨#[]⟩,.int .i64 0] 82))/\Box w w.heap.size W:=⟨_,rfl,BX.out⟩;rw[<-hW];clear hW BX
   go_region_held3 (fun w'=>Box w w.heap.size w')
    (first|exact BXW.step (zB _ _).drew|exact (BXW.step (zB _ _).drew).step hb3|go_keep)
    (first|(go_at_call 221;refine (ImplSigns.zae _).mono ?_;rintro e' w3 ⟨la,lc,rfl,hat,hb3⟩)|(go_at_call 220;refine (KS _ _ hat).out.mono ?_;rintro e' w4 ⟨rfl,rfl⟩))
   have BX3:=zH ((BXW.step (zB _ _).drew).step hb3);clear hat hb3 BXW KS;go_wp2_with fail
   refine (KL _).out.mono ?_;rintro e w4 ⟨rfl,hb4⟩;have BX4:=zH (BX3.out.step hb4);clear BX3 hb4;go_wp2_with fail
   refine (KI _).out.mono ?_;rintro e w5 ⟨rfl,hb5⟩;obtain ⟨hbw,hz,c0,c1,c2,hf⟩:=BX4.out.step hb5;clear hb5 BX4;go_wp2_with fail
   exact bodyPost_ret (v:=.tuple #[.agg #[.int .i64 0,.string ⟨#[]⟩,.int .i64 0],.int .i64 0]) (by simp[results,Tryz.results200,go_sem, *]) rfl ⟨0,_,0,rfl,(by repeat (first|assumption|refine Below.setCell ?_ (by exact zL _) _))⟩
theorem sign_tok (s:ByteArray) (w:World):
  Calls Tryz.prog 201 #[.string s] w (Tv (if (Tok.starts s 0 Tok.binaries).toList.isEmpty=false then some (⟨6,Tok.starts s 0 Tok.binaries,0⟩,(Tok.starts s 0 Tok.binaries).size) else if (Tok.starts s 0 Tok.marks).toList.isEmpty=false then some (⟨7,Tok.starts s 0 Tok.marks,0⟩,(Tok.starts s 0 Tok.marks).size) else none) w):=by
 have KS:=fun v xs w h=>zH (ImplSigns.sign_any s v xs w h)
 have KB:=fun v w h=>KS v Tok.binaries w h
 have KM:=fun v w h=>KS v Tok.marks w h
 generalize Tok.starts s 0 Tok.binaries=op at *;generalize Tok.starts s 0 Tok.marks=mk at *;have BX:=zH (box_new w);clear KS;by_cases he:op.toList.isEmpty=false
 ·rw[if_pos he]
  have hne:(op.toList==[])=false:=by rw[beq_eq_false_iff_ne];intro h;rw[h] at he;cases he
  clear he;go_enter Tryz.func201,Tryz.ntmps201;go_wp2_with fail
  refine (ImplSigns.zae _).mono ?_;rintro e w1 ⟨a,c,rfl,hat,hb1⟩;have BX1:=zH (BX.out.step hb1);clear BX hb1;go_wp2_with fail
  refine (KB _ _ hat).out.mono ?_;rintro e w2 ⟨rfl,rfl⟩;obtain ⟨hbw,hz,c0,c1,c2,hf⟩:=BX1.out;clear hat BX1;go_wp2_with fail
  exact bodyPost_ret (v:=.tuple #[.agg #[.int .i64 6,.string op,.int .i64 0],.int .i64 op.size]) (by simp[results,Tryz.results201,go_sem, *]) rfl ⟨rfl,(by repeat (first|assumption|refine Below.setCell ?_ (by exact zL _) _))⟩
 ·rw[if_neg he]
  have hne:(op.toList==[])=true:=by rw[Bool.not_eq_false,List.isEmpty_iff] at he;rw[he];rfl
  clear he;by_cases hm:mk.toList.isEmpty=false
  ·rw[if_pos hm]
   clear hm;go_enter Tryz.func201,Tryz.ntmps201;go_wp2_with fail
   refine (ImplSigns.zae _).mono ?_;rintro e w1 ⟨a,c,rfl,hat,hb1⟩;have BX1:=zH (BX.out.step hb1);clear BX hb1;go_wp2_with fail
   refine (KB _ _ hat).out.mono ?_;rintro e w2 ⟨rfl,rfl⟩;clear hat;go_wp2_with fail
   refine (marks_any _).mono ?_;rintro e w3 ⟨a,c,rfl,hat,hb3⟩;have BX3:=zH (BX1.out.step hb3);clear BX1 hb3;go_wp2_with fail
   refine (KM _ _ hat).out.mono ?_;rintro e w4 ⟨rfl,rfl⟩;obtain ⟨hbw,hz,c0,c1,c2,hf⟩:=BX3.out;clear hat BX3;go_wp2_with fail
   exact bodyPost_ret (v:=.tuple #[.agg #[.int .i64 7,.string mk,.int .i64 0],.int .i64 mk.size]) (by simp[results,Tryz.results201,go_sem, *]) rfl ⟨rfl,(by repeat (first|assumption|refine Below.setCell ?_ (by exact zL _) _))⟩
  ·rw[if_neg hm]
   have hmz:mk.size=0:=Tok.empty_size mk (by rw[Bool.not_eq_false] at hm;exact hm);clear hm;go_enter Tryz.func201,Tryz.ntmps201;go_wp2_with fail
   refine (ImplSigns.zae _).mono ?_;rintro e w1 ⟨a,c,rfl,hat,hb1⟩;have BX1:=zH (BX.out.step hb1);clear BX hb1;go_wp2_with fail
   refine (KB _ _ hat).out.mono ?_;rintro e w2 ⟨rfl,rfl⟩;clear hat;go_wp2_with fail
   refine (marks_any _).mono ?_;rintro e w3 ⟨a,c,rfl,hat,hb3⟩;have BX3:=zH (BX1.out.step hb3);clear BX1 hb3;go_wp2_with fail
   refine (KM _ _ hat).out.mono ?_;rintro e w4 ⟨rfl,rfl⟩;obtain ⟨hbw,hz,c0,c1,c2,hf⟩:=BX3.out;clear hat BX3;go_wp2_with fail
   exact bodyPost_ret (v:=.tuple #[.agg #[.int .i64 7,.string mk,.int .i64 0],.int .i64 0]) (by simp[results,Tryz.results201,go_sem, *]) rfl ⟨7,mk,0,rfl,(by repeat (first|assumption|refine Below.setCell ?_ (by exact zL _) _))⟩
end ImplRead
namespace ImplRead
open Go.RowKit
open Strs
theorem Tv.form {r:Option (Tok.T×Nat)} {w w':World} {e:Ending} (h:Tv r w e w'):∃ (k:Int) (t:ByteArray) (n m:Int),e=.returned (.tuple #[.agg #[.int .i64 k,.string t,.int .i64 n],.int .i64 m])/\Below w.heap.size w w'/\∀ w0 w2,Below w0.heap.size w0 w2->Tv r w0 (.returned (.tuple #[.agg #[.int .i64 k,.string t,.int .i64 n],.int .i64 m])) w2:=by
 cases r with
 | none=>obtain ⟨k,t,n,rfl,hb⟩:=h;exact ⟨k,t,n,0,rfl,hb,fun w0 w2 hb2=>⟨k,t,n,rfl,hb2⟩⟩
 | some x=>obtain ⟨x,m⟩:=x;obtain ⟨rfl,hb⟩:=h;exact ⟨_,_,_,_,rfl,hb,fun w0 w2 hb2=>⟨rfl,hb2⟩⟩
theorem token_any (s:ByteArray) (w:World) (hM:Max w) (hs:s.size<=1048576) (hp:0<s.size):
  Calls Tryz.prog 163 #[.string s] w (Tv (Tok.next s 0 (s[0]'hp)) w):=by
 have HV:Hid (Tok.next s 0 (s[0]'hp)=if Tok.letter (s[0]'hp)=true then Tok.nameAt s 0 else if Tok.digit (s[0]'hp)=true then Tok.number s.data.toList 0 else if (s[0]'hp)=39 then Tok.quoted s.data.toList 0 else if (s[0]'hp)=35 then Tok.selectorAt s 1 else (if (Tok.starts s 0 Tok.binaries).toList.isEmpty=false then some (⟨6,Tok.starts s 0 Tok.binaries,0⟩,(Tok.starts s 0 Tok.binaries).size) else if (Tok.starts s 0 Tok.marks).toList.isEmpty=false then some (⟨7,Tok.starts s 0 Tok.marks,0⟩,(Tok.starts s 0 Tok.marks).size) else none)):=by
  show _=_
  unfold Tok.next;simp only[Nat.zero_add]
 have hpi:(0:Int)<(s.size:Int):=by omega
 have KW:=fun w=>zH (word_any s w)
 have KI:=fun w=>zH (int_any s w)
 have KQ:=fun w h hz=>zH (text_any s w h hs hp hz)
 have KY:=fun w=>zH (symbol_any s w hs hp)
 have KG:=fun w=>zH (sign_tok s w)
 have KL:=fun b w h=>zH (ImplTok.za0 (s[0]'hp) b w h)
 have KD:=fun b w h=>zH (ImplTok.digit_is (s[0]'hp) b w h)
 have BX:=zH (box_new w);cases hl:Tok.letter (s[0]'hp) with
 | true=>
  have HR:Hid (Tok.next s 0 (s[0]'hp)=Tok.nameAt s 0):=HV.out.trans (if_pos hl);rw[HR.out];have KL1:=fun w=>KL true w hl
  clear hl KL KD HV HR KI KQ KY KG;generalize Tok.nameAt s 0=r at *;go_enter Tryz.func163,Tryz.ntmps163;go_wp2_with fail
  rw[ImplTok.wrap_byte];refine (KL1 _).out.mono ?_;rintro e w1 ⟨rfl,rfl⟩;go_wp2_with fail
  refine (KW _).out.mono ?_;intro e w2 h;obtain ⟨k,t,n,m,rfl,hb2,hT⟩:=h.form;clear h;obtain ⟨hbw,hz,c0,c1,c2,hf⟩:=BX.out.step hb2;clear BX hb2;go_wp2_with fail
  exact bodyPost_ret (v:=.tuple #[.agg #[.int .i64 k,.string t,.int .i64 n],.int .i64 m]) (by simp[results,Tryz.results163,go_sem, *]) rfl (hT _ _ (by repeat (first|assumption|refine Below.setCell ?_ (by exact zL _) _)))
 | false=>
  have KL1:=fun w=>KL false w hl
  cases hd:Tok.digit (s[0]'hp) with
  | true=>
   have HR:Hid (Tok.next s 0 (s[0]'hp)=Tok.number s.data.toList 0):=by show _=_;rw[HV.out,hl,hd];rfl
   rw[HR.out];have KD1:=fun w=>KD true w hd
   clear hl hd KL KD HV HR KW KQ KY KG;generalize Tok.number s.data.toList 0=r at *;go_enter Tryz.func163,Tryz.ntmps163;go_wp2_with fail
   rw[ImplTok.wrap_byte];refine (KL1 _).out.mono ?_;rintro e w1 ⟨rfl,rfl⟩;go_wp2_with fail
   refine (KD1 _).out.mono ?_;rintro e w1 ⟨rfl,rfl⟩;go_wp2_with fail
   refine (KI _).out.mono ?_;intro e w2 h;obtain ⟨k,t,n,m,rfl,hb2,hT⟩:=h.form;clear h;obtain ⟨hbw,hz,c0,c1,c2,hf⟩:=BX.out.step hb2;clear BX hb2;go_wp2_with fail
   exact bodyPost_ret (v:=.tuple #[.agg #[.int .i64 k,.string t,.int .i64 n],.int .i64 m]) (by simp[results,Tryz.results163,go_sem, *]) rfl (hT _ _ (by repeat (first|assumption|refine Below.setCell ?_ (by exact zL _) _)))
  | false=>
   have KD1:=fun w=>KD false w hd
   by_cases h39:(s[0]'hp).toNat=39
   ·have hc:s[0]'hp=(39:UInt8):=UInt8.toNat_inj.1 (by rw[h39];rfl)
    have HR:Hid (Tok.next s 0 (s[0]'hp)=Tok.quoted s.data.toList 0):=by show _=_;rw[HV.out,hl,hd,if_pos hc];rfl
    rw[HR.out];have t39:(((s[0]'hp).toNat:Int)==39)=true:=by rw[beq_iff_eq];omega
    have KQ1:=fun w h=>KQ w h h39
    clear hl hd KL KD HV HR KW KI KQ KY KG hc h39;generalize Tok.quoted s.data.toList 0=r at *;go_enter Tryz.func163,Tryz.ntmps163;go_wp2_with fail
    rw[ImplTok.wrap_byte];refine (KL1 _).out.mono ?_;rintro e w1 ⟨rfl,rfl⟩;go_wp2_with fail
    refine (KD1 _).out.mono ?_;rintro e w1 ⟨rfl,rfl⟩;go_wp2_with fail
    refine (KQ1 _ (hM.keep ((zB _ _).alloc (zL _) _))).out.mono ?_;intro e w2 h;obtain ⟨k,t,n,m,rfl,hb2,hT⟩:=h.form;clear h;obtain ⟨hbw,hz,c0,c1,c2,hf⟩:=BX.out.step hb2;clear BX hb2;go_wp2_with fail
    exact bodyPost_ret (v:=.tuple #[.agg #[.int .i64 k,.string t,.int .i64 n],.int .i64 m]) (by simp[results,Tryz.results163,go_sem, *]) rfl (hT _ _ (by repeat (first|assumption|refine Below.setCell ?_ (by exact zL _) _)))
   ·have t39:(((s[0]'hp).toNat:Int)==39)=false:=by rw[beq_eq_false_iff_ne];omega
    have hn39:¬s[0]'hp=(39:UInt8):=fun h=>h39 (by rw[h];rfl)
    by_cases h35:(s[0]'hp).toNat=35
    ·have hc:s[0]'hp=(35:UInt8):=UInt8.toNat_inj.1 (by rw[h35];rfl)
     have HR:Hid (Tok.next s 0 (s[0]'hp)=Tok.selectorAt s 1):=by show _=_;rw[HV.out,hl,hd,if_neg hn39,if_pos hc];rfl
     rw[HR.out];have t35:(((s[0]'hp).toNat:Int)==35)=true:=by rw[beq_iff_eq];omega
     clear hl hd KL KD HV HR KW KI KQ KG hc h39 hn39 h35;generalize Tok.selectorAt s 1=r at *;go_enter Tryz.func163,Tryz.ntmps163;go_wp2_with fail
     rw[ImplTok.wrap_byte];refine (KL1 _).out.mono ?_;rintro e w1 ⟨rfl,rfl⟩;go_wp2_with fail
     refine (KD1 _).out.mono ?_;rintro e w1 ⟨rfl,rfl⟩;go_wp2_with fail
     refine (KY _).out.mono ?_;intro e w2 h;obtain ⟨k,t,n,m,rfl,hb2,hT⟩:=h.form;clear h;obtain ⟨hbw,hz,c0,c1,c2,hf⟩:=BX.out.step hb2;clear BX hb2;go_wp2_with fail
     exact bodyPost_ret (v:=.tuple #[.agg #[.int .i64 k,.string t,.int .i64 n],.int .i64 m]) (by simp[results,Tryz.results163,go_sem, *]) rfl (hT _ _ (by repeat (first|assumption|refine Below.setCell ?_ (by exact zL _) _)))
    ·have t35:(((s[0]'hp).toNat:Int)==35)=false:=by rw[beq_eq_false_iff_ne];omega
     have hn35:¬s[0]'hp=(35:UInt8):=fun h=>h35 (by rw[h];rfl)
     rw[hl,hd,if_neg hn39,if_neg hn35] at HV;simp only[Bool.false_eq_true,if_false] at HV;rw[HV.out];clear hl hd KL KD HV KW KI KQ KY h39 hn39 h35 hn35;generalize (if (Tok.starts s 0 Tok.binaries).toList.isEmpty=false then some ((⟨6,Tok.starts s 0 Tok.binaries,0⟩:Tok.T),(Tok.starts s 0 Tok.binaries).size) else if (Tok.starts s 0 Tok.marks).toList.isEmpty=false then some (⟨7,Tok.starts s 0 Tok.marks,0⟩,(Tok.starts s 0 Tok.marks).size) else none)=r at *
     go_enter Tryz.func163,Tryz.ntmps163;go_wp2_with fail
     rw[ImplTok.wrap_byte];refine (KL1 _).out.mono ?_;rintro e w1 ⟨rfl,rfl⟩;go_wp2_with fail
     refine (KD1 _).out.mono ?_;rintro e w1 ⟨rfl,rfl⟩;go_wp2_with fail
     refine (KG _).out.mono ?_;intro e w2 h;obtain ⟨k,t,n,m,rfl,hb2,hT⟩:=h.form;clear h;obtain ⟨hbw,hz,c0,c1,c2,hf⟩:=BX.out.step hb2;clear BX hb2;go_wp2_with fail
     exact bodyPost_ret (v:=.tuple #[.agg #[.int .i64 k,.string t,.int .i64 n],.int .i64 m]) (by simp[results,Tryz.results163,go_sem, *]) rfl (hT _ _ (by repeat (first|assumption|refine Below.setCell ?_ (by exact zL _) _)))
end ImplRead
end Go.Proofs.YtbigfeblomfflaaGreatDoor
