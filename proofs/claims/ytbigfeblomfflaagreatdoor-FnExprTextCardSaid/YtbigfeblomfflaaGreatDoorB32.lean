/-
  SpecRead2 SpecQuoted
-/
import Derived.Test.YtbigfeblomfflaaGreatDoorB17
set_option maxHeartbeats 4000000
set_option maxRecDepth 10000
namespace Go.Proofs.YtbigfeblomfflaaGreatDoor
namespace SpecRead2
open Go.RowKit
open Strs SpecTok SpecName
def tv (r:Option (Tok.T×Nat)):Value:=match r with
 | some (t,e)=>.tuple #[.agg #[.int .i64 t.kind,.string t.text,.int .i64 t.num],.int .i64 (e:Nat)]
 | none=>.tuple #[.agg #[.int .i64 0,.string ByteArray.empty,.int .i64 0],.int .i64 0]
theorem name_any (s:ByteArray) (A:Int) (p:Nat) (w:World) (hA:A=p) (hp:p<=s.size) (hs:s.size<=1048576):
  Calls Tryz.prog 100 #[.string s,.int .i64 A] w fun e w'=>e=.returned (tv (Tok.nameAt s p))/\Below w.heap.size w w':=by
 subst hA;have hle:=Tok.run_le s.data.toList p (by rw[zaa];exact hp);rw[zaa] at hle;have KR:=fun w=>zH (run_any s p p w rfl hp (by unfold maxLen;omega))
 have KC:=fun w e he=>zH (colon_any s (e:Nat) e w rfl he hs)
 have HV:Hid (Tok.nameAt s p=(let e:=Tok.run s.data.toList p;let x:=s.extract p e;if 20<e-p then none else if Tok.colon s.data.toList e=true then some (⟨2,x++⟨#[58]⟩,0⟩,e+1) else some (⟨if Tok.has Tok.words x=true then 8 else 1,x,0⟩,e))):=rfl
 generalize Tok.run s.data.toList p=e at *;obtain ⟨hpe,hel⟩:=hle;by_cases hc:Tok.colon s.data.toList e=true
 ·have KC1:∀ w,Hid (Calls Tryz.prog 161 #[.string s,.int .i64 (e:Nat)] w fun e' w'=>e'=.returned (.bool true)/\w=w'):=fun w=>by have:=KC w e hel;rw[hc] at this;exact this
  have hlt:e+1<=s.size:=by have:=Tok.colon_lt _ _ hc;rw[zaa] at this;omega
  have HV2:Hid (Tok.nameAt s p=if 20<e-p then none else some (⟨2,s.extract p e++⟨#[58]⟩,0⟩,e+1)):=by show _=_;rw[HV.out];simp only[hc,if_true]
  clear hc HV KC;by_cases h20:20<e-p
  ·have HR:Hid (Tok.nameAt s p=none):=by show _=_;rw[HV2.out,if_pos h20]
   go_enter Tryz.func100,Tryz.ntmps100;go_wp2_with fail
   refine (KR _).out.mono ?_;rintro e' w1 ⟨rfl,rfl⟩;go_wp2_with fail
   refine (KC1 _).out.mono ?_;rintro e' w1 ⟨rfl,rfl⟩;go_wp2_with fail
   exact bodyPost_ret (v:=.tuple #[.agg #[.int .i64 0,.string ⟨#[]⟩,.int .i64 0],.int .i64 0]) (by simp[results,Tryz.results100,go_sem]) rfl ⟨by rw[HR.out];rfl,((zB _ _).alloc (zL _) _).alloc (by simp) _⟩
  ·have HR:Hid (Tok.nameAt s p=some (⟨2,s.extract p e++⟨#[58]⟩,0⟩,e+1)):=by show _=_;rw[HV2.out,if_neg h20]
   go_enter Tryz.func100,Tryz.ntmps100;go_wp2_with fail
   refine (KR _).out.mono ?_;rintro e' w1 ⟨rfl,rfl⟩;go_wp2_with fail
   refine (KC1 _).out.mono ?_;rintro e' w1 ⟨rfl,rfl⟩;have h21:((e+1-p:Nat):Int)<=21:=by omega
   go_wp2_with fail
   exact bodyPost_ret (v:=.tuple #[.agg #[.int .i64 2,.string (s.extract p e++⟨#[58]⟩),.int .i64 0],.int .i64 ((e:Int)+1)]) (by simp[results,Tryz.results100,go_sem]) rfl ⟨by rw[HR.out];rfl,((zB _ _).alloc (zL _) _).alloc (by simp) _⟩
 ·rw[Bool.not_eq_true] at hc
  have KC1:∀ w,Hid (Calls Tryz.prog 161 #[.string s,.int .i64 (e:Nat)] w fun e' w'=>e'=.returned (.bool false)/\w=w'):=fun w=>by have:=KC w e hel;rw[hc] at this;exact this
  have HV2:Hid (Tok.nameAt s p=if 20<e-p then none else some (⟨if Tok.has Tok.words (s.extract p e)=true then 8 else 1,s.extract p e,0⟩,e)):=by show _=_;rw[HV.out];simp only[hc];rfl
  clear hc HV KC;go_enter Tryz.func100,Tryz.ntmps100;go_wp2_with fail
  refine (KR _).out.mono ?_;rintro e' w1 ⟨rfl,rfl⟩;go_wp2_with fail
  refine (KC1 _).out.mono ?_;rintro e' w1 ⟨rfl,rfl⟩;go_wp2_with fail
  have g0:w.heap.size≠w.heap.size+1:=by omega
  obtain ⟨W,hW,hWb,c0,c1,c2,d0,d1,d2,hf0,hf1,hWs⟩:∃ W,W=((w.alloc (.cells #[.int .i64 0,.string ⟨#[]⟩,.int .i64 0] 82)).alloc (.cells #[.int .i64 1,.string (s.extract p e),.int .i64 0] 82))/\Below w.heap.size w W /\
    W.cell? ⟨w.heap.size+1,0,none⟩=some (.int .i64 1)/\W.cell? ⟨w.heap.size+1,1,none⟩=some (.string (s.extract p e))/\W.cell? ⟨w.heap.size+1,2,none⟩=some (.int .i64 0) /\
    W.cell? ⟨w.heap.size,0,none⟩=some (.int .i64 0)/\W.cell? ⟨w.heap.size,1,none⟩=some (.string ⟨#[]⟩)/\W.cell? ⟨w.heap.size,2,none⟩=some (.int .i64 0) /\
    (∀ o,W.frozen? ⟨w.heap.size,o,none⟩=false)/\(∀ o,W.frozen? ⟨w.heap.size+1,o,none⟩=false)/\W.heap.size=w.heap.size+2:=by
   refine ⟨_,rfl,((zB _ _).alloc (zL _) _).alloc (by simp) _,?_,?_,?_,?_,?_,?_,?_,?_,by simp⟩
   all_goals first|(intro o;go_simp)|go_simp
  rw[<-hW];clear hW;by_cases hw:Tok.has Tok.words (s.extract p e)=true
  ·have KW:=fun v w h=>zH (has_is v Tok.words (s.extract p e) true w h hw)
   have HV3:Hid (Tok.nameAt s p=if 20<e-p then none else some (⟨8,s.extract p e,0⟩,e)):=by show _=_;rw[HV2.out,hw];rfl
   clear hw HV2
   go_region_held3 (fun w'=>w'.cell? ⟨w.heap.size+1,1,none⟩=some (.string (s.extract p e))/\Below W.heap.size W w')
    (first|exact ⟨c1,(zB _ _).drew⟩|exact ⟨cell_keep hb3 (show W.drew.cell? _=_ from c1),(zB _ _).drew.trans (hb3.mono (zL _))⟩|go_keep)
    (first|(go_at_call 67;refine (words_any _).mono ?_;rintro e' w3 ⟨la,lc,rfl,hat,hb3⟩)|(go_at_call 66;refine (KW _ _ hat).out.mono ?_;rintro e' w4 ⟨rfl,rfl⟩))
   have B3:Below W.heap.size W w3:=(zB W.heap.size W).drew.trans (hb3.mono (zL _));clear hat hb3 KW;have e0:=cell_keep B3 c0;have e1:=cell_keep B3 c1;have e2:=cell_keep B3 c2;have i0:=cell_keep B3 d0;have i1:=cell_keep B3 d1;have i2:=cell_keep B3 d2;have q0:∀ o,w3.frozen? ⟨w.heap.size,o,none⟩=false:=fun o=>(B3.frozen (p:=⟨w.heap.size,o,none⟩) (by simp;omega)).trans (hf0 o)
   have q1:∀ o,w3.frozen? ⟨w.heap.size+1,o,none⟩=false:=fun o=>(B3.frozen (p:=⟨w.heap.size+1,o,none⟩) (by simp;omega)).trans (hf1 o)
   have HB3:Hid (Below w.heap.size w w3):=hWb.trans (B3.mono (by omega));clear c0 c1 c2 d0 d1 d2 hf0 hf1 hWb B3 hWs;by_cases h20:20<e-p
   ·have HR:Hid (Tok.nameAt s p=none):=by show _=_;rw[HV3.out,if_pos h20]
    clear HV3;go_wp2_with fail
    all_goals exact bodyPost_ret (v:=.tuple #[.agg #[.int .i64 0,.string ⟨#[]⟩,.int .i64 0],.int .i64 0]) (by simp[results,Tryz.results100,go_sem, *]) rfl ⟨by rw[HR.out];rfl,(by repeat (first|exact HB3.out|refine Below.setCell ?_ (by first|exact zL _|exact Nat.le_succ _) _))⟩
   ·have HR:Hid (Tok.nameAt s p=some (⟨8,s.extract p e,0⟩,e)):=by show _=_;rw[HV3.out,if_neg h20]
    clear HV3;go_wp2_with fail
    all_goals exact bodyPost_ret (v:=.tuple #[.agg #[.int .i64 8,.string (s.extract p e),.int .i64 0],.int .i64 (e:Nat)]) (by simp[results,Tryz.results100,go_sem, *]) rfl ⟨by rw[HR.out];rfl,(by repeat (first|exact HB3.out|refine Below.setCell ?_ (by first|exact zL _|exact Nat.le_succ _) _))⟩
  ·rw[Bool.not_eq_true] at hw
   have KW:=fun v w h=>zH (has_is v Tok.words (s.extract p e) false w h hw)
   have HV3:Hid (Tok.nameAt s p=if 20<e-p then none else some (⟨1,s.extract p e,0⟩,e)):=by show _=_;rw[HV2.out,hw];rfl
   clear hw HV2
   go_region_held3 (fun w'=>w'.cell? ⟨w.heap.size+1,1,none⟩=some (.string (s.extract p e))/\Below W.heap.size W w')
    (first|exact ⟨c1,(zB _ _).drew⟩|exact ⟨cell_keep hb3 (show W.drew.cell? _=_ from c1),(zB _ _).drew.trans (hb3.mono (zL _))⟩|go_keep)
    (first|(go_at_call 67;refine (words_any _).mono ?_;rintro e' w3 ⟨la,lc,rfl,hat,hb3⟩)|(go_at_call 66;refine (KW _ _ hat).out.mono ?_;rintro e' w4 ⟨rfl,rfl⟩))
   have B3:Below W.heap.size W w3:=(zB W.heap.size W).drew.trans (hb3.mono (zL _));clear hat hb3 KW;have e0:=cell_keep B3 c0;have e1:=cell_keep B3 c1;have e2:=cell_keep B3 c2;have i0:=cell_keep B3 d0;have i1:=cell_keep B3 d1;have i2:=cell_keep B3 d2;have q0:∀ o,w3.frozen? ⟨w.heap.size,o,none⟩=false:=fun o=>(B3.frozen (p:=⟨w.heap.size,o,none⟩) (by simp;omega)).trans (hf0 o)
   have q1:∀ o,w3.frozen? ⟨w.heap.size+1,o,none⟩=false:=fun o=>(B3.frozen (p:=⟨w.heap.size+1,o,none⟩) (by simp;omega)).trans (hf1 o)
   have HB3:Hid (Below w.heap.size w w3):=hWb.trans (B3.mono (by omega));clear c0 c1 c2 d0 d1 d2 hf0 hf1 hWb B3 hWs;by_cases h20:20<e-p
   ·have HR:Hid (Tok.nameAt s p=none):=by show _=_;rw[HV3.out,if_pos h20]
    clear HV3;go_wp2_with fail
    all_goals exact bodyPost_ret (v:=.tuple #[.agg #[.int .i64 0,.string ⟨#[]⟩,.int .i64 0],.int .i64 0]) (by simp[results,Tryz.results100,go_sem, *]) rfl ⟨by rw[HR.out];rfl,(by repeat (first|exact HB3.out|refine Below.setCell ?_ (by first|exact zL _|exact Nat.le_succ _) _))⟩
   ·have HR:Hid (Tok.nameAt s p=some (⟨1,s.extract p e,0⟩,e)):=by show _=_;rw[HV3.out,if_neg h20]
    clear HV3;go_wp2_with fail
    all_goals exact bodyPost_ret (v:=.tuple #[.agg #[.int .i64 1,.string (s.extract p e),.int .i64 0],.int .i64 (e:Nat)]) (by simp[results,Tryz.results100,go_sem, *]) rfl ⟨by rw[HR.out];rfl,(by repeat (first|exact HB3.out|refine Below.setCell ?_ (by first|exact zL _|exact Nat.le_succ _) _))⟩
theorem digit_val (c:UInt8) (h:Tok.digit c=true):48<=c.toNat/\c.toNat<=57:=by unfold Tok.digit at h;simpa using h
theorem letterAt_is (s:ByteArray) (i:Nat) (h:i<s.size):Tok.letterAt s.data.toList i=Tok.letter (s[i]'h):=by
 have h':i<s.data.toList.length:=by rw[zaa];exact h
 unfold Tok.letterAt;rw[_root_.List.getElem?_eq_getElem h'];rfl
theorem letterAt_end (s:ByteArray) (i:Nat) (h:¬i<s.size):Tok.letterAt s.data.toList i=false:=by unfold Tok.letterAt;rw[_root_.List.getElem?_eq_none (by rw[zaa];omega)]
theorem number_any (s:ByteArray) (A:Int) (p:Nat) (w:World) (hA:A=p) (hp:p<=s.size) (hs:s.size<=1048576):
  Calls Tryz.prog 102 #[.string s,.int .i64 A] w fun e w'=>e=.returned (tv (Tok.number s.data.toList p))/\Below w.heap.size w w':=by
 subst hA;go_enter Tryz.func102,Tryz.ntmps102;go_wp2_with fail
 go_loop [6,7] (fun j q=>∃ i v:Nat,p<=i/\i<=s.size/\i<=p+9/\j=.int .i64 i/\q=.int .i64 v/\v<10 ^ (i-p)/\v<1000000000/\v=Tok.dval ((s.data.toList.drop p).take (i-p))/\Tok.drun s.data.toList p=Tok.drun s.data.toList i) (fun j _=>s.size-(intOf j).toNat)
 case atStart=>exact ⟨p,0,by omega,hp,by omega,rfl,rfl,by simp,by omega,by simp[Tok.dval],rfl⟩
 case round=>
  obtain ⟨i,v,hpi,hi,hi9,rfl,rfl,hv,hv9,hval,hrun⟩:=hrel;have HVAL:=zH hval;clear hval;have HRUN:=zH hrun;clear hrun;have HV:=zH hv;clear hv;by_cases hlt:i<s.size
  ·have hlt':i<s.data.toList.length:=by rw[zaa];exact hlt
   have hx:s.data.toList[i]'hlt'=s[i]'hlt:=rfl;by_cases hd:Tok.digit (s[i]'hlt)=true
   ·have K:=fun w=>zH (digit_is (s[i]'hlt) true w hd)
    have hdv:=digit_val _ hd;have hd0:(48:Int)<=((s[i]'hlt).toNat:Int):=by omega
    have hd1:((s[i]'hlt).toNat:Int)<=57:=by omega
    have HR2:Hid (Tok.drun s.data.toList p=Tok.drun s.data.toList (i+1)):=HRUN.out.trans (Tok.drun_go _ i hlt' (by rw[hx];exact hd))
    have HV2:Hid (10*v+((s[i]'hlt).toNat-48)=Tok.dval ((s.data.toList.drop p).take (i+1-p))):=by
     show _=_
     rw[Tok.take_more _ p i hpi hlt',Tok.dval_snoc,<-HVAL.out,hx]
    have HP2:Hid (10*v+((s[i]'hlt).toNat-48)<10 ^ (i+1-p)):=by
     show _<_
     rw[show i+1-p=(i-p)+1 by omega,Nat.pow_succ]
     have:=HV.out;omega
    clear hx hd hdv;by_cases h9:(i:Int)+1-(p:Int)<=9
    ·have h10:10 ^ (i+1-p)<=10 ^ 9:=Nat.pow_le_pow_right (by omega) (by omega)
     have HB9:Hid (10*v+((s[i]'hlt).toNat-48)<1000000000):=by have:=HP2.out;show _<_;omega
     clear h10;go_wp2_with fail
     refine (K _).out.mono ?_;rintro e w1 ⟨rfl,rfl⟩;go_wp2_with fail
     go_round
     case rel=>exact ⟨i+1,10*v+((s[i]'hlt).toNat-48),by omega,by omega,by omega,by go_num,by go_num,HP2.out,HB9.out,HV2.out,HR2.out⟩
     case measure=>simp[intOf];omega
    ·have HN:Hid (Tok.number s.data.toList p=none):=Tok.number_long _ p (by have h1:=HR2.out;have h2:=Tok.drun_ge s.data.toList (i+1);omega)
     go_wp2_with fail
     refine (K _).out.mono ?_;rintro e w1 ⟨rfl,rfl⟩;go_wp2_with fail
     exact bodyPost_ret (v:=.tuple #[.agg #[.int .i64 0,.string ⟨#[]⟩,.int .i64 0],.int .i64 0]) (by simp[results,Tryz.results102,go_sem, *]) rfl ⟨by rw[HN.out];rfl,(zB _ _).alloc (zL _) _⟩
   ·rw[Bool.not_eq_true] at hd
    have K:=fun w=>zH (digit_is (s[i]'hlt) false w hd)
    have HE:Hid (Tok.drun s.data.toList p=i):=HRUN.out.trans (Tok.drun_stop _ i (fun h=>by rw[hx];exact hd))
    have HLA:=zH (letterAt_is s i hlt);clear hx hd;by_cases hL:Tok.letter (s[i]'hlt)=true
    ·have KL:=fun w=>zH (za0 (s[i]'hlt) true w hL)
     have HN:Hid (Tok.number s.data.toList p=none):=Tok.number_letter _ p i HE.out (by rw[HLA.out];exact hL);clear hL;go_wp2_with fail
     refine (K _).out.mono ?_;rintro e w1 ⟨rfl,rfl⟩;go_wp2_with fail
     refine (KL _).out.mono ?_;rintro e w1 ⟨rfl,rfl⟩;go_wp2_with fail
     exact bodyPost_ret (v:=.tuple #[.agg #[.int .i64 0,.string ⟨#[]⟩,.int .i64 0],.int .i64 0]) (by simp[results,Tryz.results102,go_sem, *]) rfl ⟨by rw[HN.out];rfl,(zB _ _).alloc (zL _) _⟩
    ·rw[Bool.not_eq_true] at hL
     have KL:=fun w=>zH (za0 (s[i]'hlt) false w hL)
     have HN:Hid (Tok.number s.data.toList p=some (⟨3,ByteArray.empty,v⟩,i)):=by show _=_;rw[Tok.number_is _ p i HE.out (by omega) (by rw[HLA.out];exact hL),HVAL.out]
     clear hL;go_wp2_with fail
     refine (K _).out.mono ?_;rintro e w1 ⟨rfl,rfl⟩;go_wp2_with fail
     refine (KL _).out.mono ?_;rintro e w1 ⟨rfl,rfl⟩;go_wp2_with fail
     exact bodyPost_ret (v:=.tuple #[.agg #[.int .i64 3,.string ⟨#[]⟩,.int .i64 (v:Nat)],.int .i64 (i:Nat)]) (by simp[results,Tryz.results102,go_sem, *]) rfl ⟨by rw[HN.out];rfl,(zB _ _).alloc (zL _) _⟩
  ·have HE:Hid (Tok.drun s.data.toList p=i):=HRUN.out.trans (Tok.drun_stop _ i (fun h=>by rw[zaa] at h;omega))
   have HN:Hid (Tok.number s.data.toList p=some (⟨3,ByteArray.empty,v⟩,i)):=by show _=_;rw[Tok.number_is _ p i HE.out (by omega) (letterAt_end s i hlt),HVAL.out]
   go_wp2_with fail
   exact bodyPost_ret (v:=.tuple #[.agg #[.int .i64 3,.string ⟨#[]⟩,.int .i64 (v:Nat)],.int .i64 (i:Nat)]) (by simp[results,Tryz.results102,go_sem, *]) rfl ⟨by rw[HN.out];rfl,(zB _ _).alloc (zL _) _⟩
end SpecRead2
namespace SpecQuoted
open Go.RowKit
open Strs SpecTok SpecName SpecRead2
theorem info5:(Tryz.prog.info? 5).map (fun i=>(i.zero,i.size,i.bytes))=some (some (.int .u8 0),1,1):=by kernel_rfl
theorem byte39 (c:UInt8) (h:(c.toNat:Int)=39):c=39:=UInt8.toNat_inj.1 (show c.toNat=39 by omega)
theorem quoted_any (s:ByteArray) (A:Int) (p:Nat) (w:World) (hA:A=p) (hp:p<s.size) (hs:s.size<=1048576):
  Calls Tryz.prog 103 #[.string s,.int .i64 A] w fun e w'=>e=.returned (tv (Tok.quoted s.data.toList p))/\Below w.heap.size w w':=by
 subst hA;obtain ⟨i0,hi,hz0,hz1,hz2⟩:=info_parts info5;have hL:s.data.toList.length=s.size:=zaa s;have HLEN:=zH hL;clear hL;go_enter Tryz.func103,Tryz.ntmps103;go_wp2_with fail
 go_loopw [6,7] (fun v j wr=>∃ (f i:Nat) (out:_root_.List UInt8),i<=s.size/\s.size<f+i/\out.length<=i/\j=.int .i64 i/\Tok.quo s.data.toList (s.data.toList.length+1) (p+1) []=Tok.quo s.data.toList f i out /\
   wr.ownsRow (w.heap.size+1) 5 1 v out.length (out.map (fun b:UInt8=>Value.int .u8 b.toNat))/\Below w.heap.size w wr/\w.heap.size+1<=wr.heap.size /\
   wr.cell? ⟨w.heap.size,0,none⟩=some (.int .i64 0)/\wr.cell? ⟨w.heap.size,1,none⟩=some (.string ⟨#[]⟩)/\wr.cell? ⟨w.heap.size,2,none⟩=some (.int .i64 0)/\∀ o,wr.frozen? ⟨w.heap.size,o,none⟩=false) (fun _ j _=>s.size-(intOf j).toNat)
 case atStart=>
  refine ⟨s.data.toList.length+1,p+1,[],by omega,by have:=HLEN.out;omega,by simp,by go_num,rfl,?_,((zB _ _).alloc (zL _) _).alloc (by simp) _,by simp,?_,?_,?_,?_⟩
  ·have:=World.ownsRow_lit (base:=w.heap.size+1) (e:=5) (size:=1) (w.alloc (.cells #[.int .i64 0,.string ⟨#[]⟩,.int .i64 0] 82)) #[] 0 (by simp) (Nat.zero_le _) rfl
   simpa using this
  all_goals first|(intro o;go_simp)|go_simp
 case round=>
  obtain ⟨f,i,out,hil,hf1,hol,rfl,hq,hown,hbw,hsz,c0,c1,c2,hf⟩:=hrel;have HQ:=zH hq;clear hq;obtain ⟨ra,rc,rfl⟩:=Kit.zax hown;have HO:=zH hown;clear hown;by_cases hlt:i<s.size
  ·have hlt':i<s.data.toList.length:=by rw[HLEN.out];exact hlt
   have hx:s.data.toList[i]'hlt'=s[i]'hlt:=rfl;obtain ⟨f,rfl⟩:∃ g,f=g+1:=⟨f-1,by omega⟩
   by_cases h39:((s[i]'hlt).toNat:Int)=39
   ·have hc39:s.data.toList[i]'hlt'=39:=by rw[hx];exact byte39 _ h39
    have t39:(((s[i]'hlt).toNat:Int)==39)=true:=by simpa using h39
    by_cases hn1:i+1<s.size
    ·have hn1':i+1<s.data.toList.length:=by rw[HLEN.out];exact hn1
     have hx1:s.data.toList[i+1]'hn1'=s[i+1]'hn1:=rfl;have hn1i:(i:Int)+1<(s.size:Int):=by omega
     by_cases h392:((s[i+1]'hn1).toNat:Int)=39
     ·have u39:(((s[i+1]'hn1).toNat:Int)==39)=true:=by simpa using h392
      have v39:(39:Int)=((s[i+1]'hn1).toNat:Int):=by omega
      have hcc:s.data.toList[i+1]?=some 39:=by rw[_root_.List.getElem?_eq_getElem hn1',hx1];rw[byte39 _ h392]
      have HQ2:Hid (Tok.quo s.data.toList (s.data.toList.length+1) (p+1) []=Tok.quo s.data.toList f (i+2) (out++[s[i+1]'hn1])):=HQ.out.trans ((Tok.quo_two _ f i out hlt' hc39 hcc).trans (by rw[byte39 _ h392]));have w39:¬((s[i+1]'hn1).toNat:Int)<32:=by omega
      have x39:¬(126:Int)<((s[i+1]'hn1).toNat:Int):=by omega
      clear h39 hc39 hx hx1 h392 hcc v39;go_wp2_with (at_builtin;refine wpList_append_own _ rfl _ _ 22 rfl (w.heap.size+1) 5 i0 (.int .u8 0) 1 1 Tryz.underlying22 hi hz0 hz1 hz2 rfl (by decide) _ _ _ rfl (HO.out.alloc _) ⟨wr.heap.size,0,none⟩ 1 1 [.int .u8 (((s[i+1]'hn1).toNat:Int))] rfl rfl ?c1 ?c2 ?c3 ?c4 ?c5 ?_)
      case c1=>exact Kit.one_cells _ _ _
      case c2=>exact Kit.one_byte _
      case c3=>unfold maxLen;omega
      case c4=>omega
      case c5=>simp;omega
      intro v2 w2 hown2 hgr2 _;have hb2:=Kit.app_below hsz (zB _ _) HO.out hgr2;have hbw2:Below w.heap.size w w2:=hbw.trans (hb2.mono (by omega));have hsz2:w.heap.size+1<=w2.heap.size:=Nat.le_trans hsz hb2.size;have k0:w2.cell? ⟨w.heap.size,0,none⟩=some (.int .i64 0):=by rw[hb2.cell (p:=⟨w.heap.size,0,none⟩) (by simp)];exact c0
      have k1:w2.cell? ⟨w.heap.size,1,none⟩=some (.string ⟨#[]⟩):=by rw[hb2.cell (p:=⟨w.heap.size,1,none⟩) (by simp)];exact c1
      have k2:w2.cell? ⟨w.heap.size,2,none⟩=some (.int .i64 0):=by rw[hb2.cell (p:=⟨w.heap.size,2,none⟩) (by simp)];exact c2
      have kf:∀ o,w2.frozen? ⟨w.heap.size,o,none⟩=false:=fun o=>(hb2.frozen (p:=⟨w.heap.size,o,none⟩) (by simp)).trans (hf o)
      have HO2:Hid (w2.ownsRow (w.heap.size+1) 5 1 v2 (out++[s[i+1]'hn1]).length ((out++[s[i+1]'hn1]).map (fun b:UInt8=>Value.int .u8 b.toNat))):=by
       show World.ownsRow _ _ _ _ _ _ _
       rw[_root_.List.map_append,_root_.List.length_append];simpa using hown2
      clear hown2 hgr2 hb2 HO hbw hsz c0 c1 c2 hf;go_wp2_with fail
      go_roundw
      case rel=>exact ⟨f,i+2,_,by omega,by omega,by simp;omega,by go_num,HQ2.out,HO2.out,hbw2,hsz2,k0,k1,k2,kf⟩
      case measure=>simp[intOf];omega
     ·have u39:(((s[i+1]'hn1).toNat:Int)==39)=false:=by simpa using h392
      have hcc:¬s.data.toList[i+1]?=some 39:=by rw[_root_.List.getElem?_eq_getElem hn1',hx1,Option.some.injEq];intro e;exact h392 (by rw[e];rfl)
      clear h392 hx1;have HQ2:Hid (Tok.quo s.data.toList (s.data.toList.length+1) (p+1) []=some (out,i+1)):=HQ.out.trans (Tok.quo_one _ f i out hlt' hc39 hcc);have HV:=zH (Tok.quoted_some s.data.toList p (i+1) out HQ2.out);clear h39 hc39 hx hcc;by_cases h40:(40:Int)<(out.length:Int)
      ·have HN:Hid (Tok.quoted s.data.toList p=none):=HV.out.trans (if_neg (by omega))
       go_wp2_with fail
       exact bodyPost_ret (v:=.tuple #[.agg #[.int .i64 0,.string ⟨#[]⟩,.int .i64 0],.int .i64 0]) (by simp[results,Tryz.results103,go_sem, *]) rfl ⟨by rw[HN.out];rfl,(by repeat (first|exact hbw|refine Below.setCell ?_ (by exact zL _) _))⟩
      ·have HN:Hid (Tok.quoted s.data.toList p=some (⟨4,⟨out.toArray⟩,0⟩,i+1)):=HV.out.trans (if_pos (by omega))
       have hcv:=Kit.conv_row wr _ _ out HO.out;go_wp2_with fail
       exact bodyPost_ret (v:=.tuple #[.agg #[.int .i64 4,.string ⟨out.toArray⟩,.int .i64 0],.int .i64 ((i:Int)+1)]) (by simp[results,Tryz.results103,go_sem, *]) rfl ⟨by rw[HN.out];rfl,(by repeat (first|exact hbw|refine Below.setCell ?_ (by exact zL _) _))⟩
    ·have hn1i:¬(i:Int)+1<(s.size:Int):=by omega
     have hcc:¬s.data.toList[i+1]?=some 39:=by rw[_root_.List.getElem?_eq_none (by rw[HLEN.out];omega)];simp
     have HQ2:Hid (Tok.quo s.data.toList (s.data.toList.length+1) (p+1) []=some (out,i+1)):=HQ.out.trans (Tok.quo_one _ f i out hlt' hc39 hcc);have HV:=zH (Tok.quoted_some s.data.toList p (i+1) out HQ2.out);clear h39 hc39 hx hcc;by_cases h40:(40:Int)<(out.length:Int)
     ·have HN:Hid (Tok.quoted s.data.toList p=none):=HV.out.trans (if_neg (by omega))
      go_wp2_with fail
      exact bodyPost_ret (v:=.tuple #[.agg #[.int .i64 0,.string ⟨#[]⟩,.int .i64 0],.int .i64 0]) (by simp[results,Tryz.results103,go_sem, *]) rfl ⟨by rw[HN.out];rfl,(by repeat (first|exact hbw|refine Below.setCell ?_ (by exact zL _) _))⟩
     ·have HN:Hid (Tok.quoted s.data.toList p=some (⟨4,⟨out.toArray⟩,0⟩,i+1)):=HV.out.trans (if_pos (by omega))
      have hcv:=Kit.conv_row wr _ _ out HO.out;go_wp2_with fail
      exact bodyPost_ret (v:=.tuple #[.agg #[.int .i64 4,.string ⟨out.toArray⟩,.int .i64 0],.int .i64 ((i:Int)+1)]) (by simp[results,Tryz.results103,go_sem, *]) rfl ⟨by rw[HN.out];rfl,(by repeat (first|exact hbw|refine Below.setCell ?_ (by exact zL _) _))⟩
   ·have hc39:¬s.data.toList[i]'hlt'=39:=by rw[hx];intro e;exact h39 (by rw[e];rfl)
    have t39:(((s[i]'hlt).toNat:Int)==39)=false:=by simpa using h39
    by_cases h32:((s[i]'hlt).toNat:Int)<32
    ·have HN:Hid (Tok.quoted s.data.toList p=none):=Tok.quoted_none _ p (HQ.out.trans (Tok.quo_bad _ f i out hlt' hc39 (by rw[hx];omega)))
     clear h39 hc39 hx;go_wp2_with fail
     exact bodyPost_ret (v:=.tuple #[.agg #[.int .i64 0,.string ⟨#[]⟩,.int .i64 0],.int .i64 0]) (by simp[results,Tryz.results103,go_sem, *]) rfl ⟨by rw[HN.out];rfl,(by repeat (first|exact hbw|refine Below.setCell ?_ (by exact zL _) _))⟩
    ·by_cases h126:(126:Int)<((s[i]'hlt).toNat:Int)
     ·have HN:Hid (Tok.quoted s.data.toList p=none):=Tok.quoted_none _ p (HQ.out.trans (Tok.quo_bad _ f i out hlt' hc39 (by rw[hx];omega)))
      clear h39 hc39 hx;go_wp2_with fail
      exact bodyPost_ret (v:=.tuple #[.agg #[.int .i64 0,.string ⟨#[]⟩,.int .i64 0],.int .i64 0]) (by simp[results,Tryz.results103,go_sem, *]) rfl ⟨by rw[HN.out];rfl,(by repeat (first|exact hbw|refine Below.setCell ?_ (by exact zL _) _))⟩
     ·have HQ2:Hid (Tok.quo s.data.toList (s.data.toList.length+1) (p+1) []=Tok.quo s.data.toList f (i+1) (out++[s[i]'hlt])):=HQ.out.trans ((Tok.quo_go _ f i out hlt' hc39 (by rw[hx];omega)).trans (by rw[hx]))
      clear h39 hc39 hx;go_wp2_with (at_builtin;refine wpList_append_own _ rfl _ _ 22 rfl (w.heap.size+1) 5 i0 (.int .u8 0) 1 1 Tryz.underlying22 hi hz0 hz1 hz2 rfl (by decide) _ _ _ rfl (HO.out.alloc _) ⟨wr.heap.size,0,none⟩ 1 1 [.int .u8 (((s[i]'hlt).toNat:Int))] rfl rfl ?gg1 ?gg2 ?gg3 ?gg4 ?gg5 ?_)
      try case gg1=>exact Kit.one_cells _ _ _
      case gg2=>first|exact Kit.one_byte _|rfl
      case gg3=>unfold maxLen;omega
      case gg4=>omega
      case gg5=>first|omega|(simp;omega)
      intro v2 w2 hown2 hgr2 _;have hb2:=Kit.app_below hsz (zB _ _) HO.out hgr2;have hbw2:Below w.heap.size w w2:=hbw.trans (hb2.mono (by omega));have hsz2:w.heap.size+1<=w2.heap.size:=Nat.le_trans hsz hb2.size;have k0:w2.cell? ⟨w.heap.size,0,none⟩=some (.int .i64 0):=by rw[hb2.cell (p:=⟨w.heap.size,0,none⟩) (by simp)];exact c0
      have k1:w2.cell? ⟨w.heap.size,1,none⟩=some (.string ⟨#[]⟩):=by rw[hb2.cell (p:=⟨w.heap.size,1,none⟩) (by simp)];exact c1
      have k2:w2.cell? ⟨w.heap.size,2,none⟩=some (.int .i64 0):=by rw[hb2.cell (p:=⟨w.heap.size,2,none⟩) (by simp)];exact c2
      have kf:∀ o,w2.frozen? ⟨w.heap.size,o,none⟩=false:=fun o=>(hb2.frozen (p:=⟨w.heap.size,o,none⟩) (by simp)).trans (hf o)
      have HO2:Hid (w2.ownsRow (w.heap.size+1) 5 1 v2 (out++[s[i]'hlt]).length ((out++[s[i]'hlt]).map (fun b:UInt8=>Value.int .u8 b.toNat))):=by
       show World.ownsRow _ _ _ _ _ _ _
       rw[_root_.List.map_append,_root_.List.length_append];simpa using hown2
      clear hown2 hgr2 hb2 HO hbw hsz c0 c1 c2 hf;go_wp2_with fail
      go_roundw
      case rel=>exact ⟨f,i+1,_,by omega,by omega,by simp;omega,by go_num,HQ2.out,HO2.out,hbw2,hsz2,k0,k1,k2,kf⟩
      case measure=>simp[intOf];omega
  ·have HN:Hid (Tok.quoted s.data.toList p=none):=Tok.quoted_none _ p (HQ.out.trans (Tok.quo_end _ f i out (by rw[HLEN.out];exact hlt)))
   go_wp2_with fail
   exact bodyPost_ret (v:=.tuple #[.agg #[.int .i64 0,.string ⟨#[]⟩,.int .i64 0],.int .i64 0]) (by simp[results,Tryz.results103,go_sem, *]) rfl ⟨by rw[HN.out];rfl,(by repeat (first|exact hbw|refine Below.setCell ?_ (by exact zL _) _))⟩
end SpecQuoted
end Go.Proofs.YtbigfeblomfflaaGreatDoor
