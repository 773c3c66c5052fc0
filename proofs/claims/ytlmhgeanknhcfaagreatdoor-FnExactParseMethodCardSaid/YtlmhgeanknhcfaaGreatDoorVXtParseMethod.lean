/-
  XtParseMethod
-/
import Derived.Test.YtlmhgeanknhcfaaGreatDoorB16
import Derived.Test.YtlmhgeanknhcfaaGreatDoorB0
import Derived.Test.YtlmhgeanknhcfaaGreatDoorB5
import Derived.Test.YtlmhgeanknhcfaaGreatDoorB18
import Derived.Test.YtlmhgeanknhcfaaGreatDoorB24
import Derived.Test.YtlmhgeanknhcfaaGreatDoorB3
import Derived.Test.YtlmhgeanknhcfaaGreatDoorB41
namespace Go.Proofs.YtlmhgeanknhcfaaGreatDoor.Data
open Go.RowKit
open Strs
theorem Box.step {w wr w':World} {ds zs os:List D} (h:Box w ds zs os wr) (hb:Below wr.heap.size wr w'):Box w ds zs os w':=
 ⟨h.below.trans (hb.mono (by have:=h.size;omega)),Nat.le_trans h.size hb.size,h.a.step hb,h.b.step hb,h.c.step hb,
  fun o=>(hb.frozen (p:=⟨_,o,none⟩) (by have:=h.size;simp;omega)).trans (h.fb o),fun o=>(hb.frozen (p:=⟨_,o,none⟩) (by have:=h.size;simp;omega)).trans (h.fc o)⟩
end Go.Proofs.YtlmhgeanknhcfaaGreatDoor.Data
namespace Go.Proofs.YtlmhgeanknhcfaaGreatDoor.Parser
open Go.RowKit
open Strs Tree Gram
theorem za2.kids {P:Cst} {w w':World} (h:za2 P w w') {ks:List E} {v:Value} (hr:zdh (P.pb+1) w ks v):zdh (P.pb+1) w' ks v:=hr.keep (zL _) h.kept
end Go.Proofs.YtlmhgeanknhcfaaGreatDoor.Parser
namespace Go.Proofs.YtlmhgeanknhcfaaGreatDoor.SpecParse
set_option maxHeartbeats 16000000
set_option maxRecDepth 10000
open Go.RowKit
open Strs Tree Gram
open Go.Proofs.YtlmhgeanknhcfaaGreatDoor.Parser
open Go.Proofs.YtlmhgeanknhcfaaGreatDoor.Data (Cells zae D val M MAt)
def zdq (s:ByteArray):Option M:=
 match Tok.tokens s with
 | none=>none
 | some ts=>
  match Gram.method (expr (ts.length+1)) ts with
  | some (m,[])=>some m
  | _=>none
def zdo (s:ByteArray):Option M:=match zdq s with|none=>none|some m=>if Data.zbi m=true then some m else none
def zzt (a:Option M) (w:World) (e:Ending) (w':World):Prop:=
 ∃ m v2 v3 v4,e=.returned (.tuple #[.agg #[.string m.sel,.bool m.cls,v2,v3,v4],.bool a.isSome])/\m=a.getD zka/\MAt w.heap.size w' m v2 v3 v4/\Below w.heap.size w w'
theorem zgi {s:ByteArray} {m:M} (h:zdq s=some m):m.sel.size+weight (Data.zcs m)<=4800:=by
 unfold zdq at h
 split at h
 ·cases h
 ·rename_i ts hts
  split at h
  ·rename_i m' hm
   cases h;have h1:=(zgc (zd4 _) (zau _) hm).2;obtain ⟨h2,-,h3⟩:=Tok.zg8 s ts hts;rw[zh4,zh4] at h1;omega
  ·cases h
theorem zkb {P:Cst} {s:ByteArray} {m:M} {q:Nat} {b:Bool} (hts:Tok.tokens s=some P.toks) (hq:q<=P.toks.length) (h:Gram.method (expr (P.toks.length+1)) P.toks=Got b (m,rest P q)):zdq s=if b=true then none else if q=P.toks.length then some m else none:=by
 unfold zdq;rw[hts];simp only;rw[h];cases b with
 | true=>rfl
 | false=>
  by_cases hq2:q=P.toks.length
  ·have:rest P q=[]:=List.eq_nil_of_length_eq_zero (by rw[zaf];omega)
   show (match some (m,rest P q) with|some (m,[])=>some m|_=>none)=_
   rw[this];simp[hq2]
  ·have:0<(rest P q).length:=by rw[zaf];omega
   cases hrr:rest P q with
   | nil=>rw[hrr] at this;cases this
   | cons x r=>simp[Got,hq2]
theorem zwq (w:World):Cells w.heap.size (zou ⟨#[]⟩ (.slice none 0 0)) (w.alloc (.cells #[.string ⟨#[]⟩,.bool false,.slice none 0 0,.slice none 0 0,.slice none 0 0] 41)):=zae w (zou ⟨#[]⟩ (.slice none 0 0)) 41
theorem z9a {w w1:World} {lo:Nat} {m:M} {v2 v3 v4:Value} (h:Below w.heap.size w w1) (hm:MAt lo w1 m v2 v3 v4) (hl:w.heap.size<lo) (vs:List Value):MAt w.heap.size (Data.puts w1 w.heap.size 0 vs) m v2 v3 v4/\Below w.heap.size w (Data.puts w1 w.heap.size 0 vs):=
 ⟨MAt.keep hm (Nat.le_of_lt hl) (zme hl vs w1 0 (fun _ _ _ _ h=>h)),Data.zbl (zL _) _ _ _ _ h⟩
theorem z0a {ex:X} {P:Cst} (h:wd zb7 (rest P 0)=true):Gram.method ex (rest P 0)=zrv ex true (rest P 1):=by unfold Gram.method;rw[h,if_pos rfl,zab]
theorem z09 {ex:X} {P:Cst} {q:Nat} {b:Bool} {x:ByteArray} (h:wd zb7 (rest P 0)=false)
  (hn:b=false->false=false/\isB 8 ⟨#[109,101,116,104,111,100]⟩ (rest P 0)=true/\q=0+1/\x=txt (rest P 0)) (hy:b=true->false=true\/isB 8 ⟨#[109,101,116,104,111,100]⟩ (rest P 0)=false):
  (b=false->Gram.method ex (rest P 0)=zrv ex false (rest P q))/\(b=true->Gram.method ex (rest P 0)=none):=by
 unfold Gram.method;rw[h];refine ⟨fun e=>?_,fun e=>?_⟩
 ·obtain ⟨-,h1,rfl,-⟩:=hn e
  rw[show wd zfs (rest P 0)=true from (zgm zfs (by decide) _).symm.trans h1,zab]
  rfl
 ·rcases hy e with h1|h1
  ·cases h1
  ·rw[show wd zfs (rest P 0)=false from (zgm zfs (by decide) _).symm.trans h1]
   rfl
theorem zl9 {w w1:World} (h:Below w.heap.size w w1):True/\Below w.heap.size w (Data.puts w1 w.heap.size 0 [.string ⟨#[]⟩,.bool false,.slice none 0 0,.slice none 0 0,.slice none 0 0]):=⟨trivial,Data.zbl (zL _) _ _ _ _ h⟩
theorem zj0 (s:ByteArray) (w:World) (hs:s.size<=1048576):
  Calls Tryz.prog 17 #[.string s] w (zzt (zdo s) w):=by
 have hb0:Below w.heap.size w (w.alloc (.cells #[.string ⟨#[]⟩,.bool false,.slice none 0 0,.slice none 0 0,.slice none 0 0] 41)):=(zB _ _).alloc (zL _) _;have HB0:=zH hb0;have HZ:=zH (zwq w);have HZF:=zH (show ∀ o,(w.alloc (.cells #[.string ⟨#[]⟩,.bool false,.slice none 0 0,.slice none 0 0,.slice none 0 0] 41)).frozen? ⟨w.heap.size,o,none⟩=false from fun o=>by go_simp)
 have KT:=zH (zfu s (w.alloc (.cells #[.string ⟨#[]⟩,.bool false,.slice none 0 0,.slice none 0 0,.slice none 0 0] 41)) hs);have hw0:(w.alloc (.cells #[.string ⟨#[]⟩,.bool false,.slice none 0 0,.slice none 0 0,.slice none 0 0] 41)).heap.size=w.heap.size+1:=by simp
 have HW0:=zH hw0;clear hb0 hw0;generalize hA:zdo s=A;have HA:=zH hA;clear hA;go_enter Tryz.func17,Tryz.ntmps17;go_wp2_with fail
 refine KT.out.mono ?_;intro e w1 hread;cases hts:Tok.tokens s with
 | none=>
  rw[hts] at hread;obtain ⟨rfl,hb1⟩:=hread;have hAn:A=none:=by rw[<-HA.out];unfold zdo zdq;rw[hts]
  subst hAn;have hz1:=HZ.out.step hb1;have zf:∀ o,w1.frozen? ⟨w.heap.size,o,none⟩=false:=fun o=>(hb1.frozen (p:=⟨w.heap.size,o,none⟩) HZ.out.1).trans (HZF.out o)
  have z0:=hz1.at 0 (.str ⟨#[]⟩) rfl;have z1:=hz1.at 1 (.bool false) rfl;have z2:=hz1.at 2 (.row 0 1 (.slice none 0 0) []) rfl;have z3:=hz1.at 3 (.row 0 1 (.slice none 0 0) []) rfl;have z4:=hz1.at 4 (.row 0 5 (.slice none 0 0) []) rfl;simp only[val] at z0 z1 z2 z3 z4;have hlt:w.heap.size<w1.heap.size:=hz1.1;have hB:=zH (HB0.out.trans (hb1.mono (by rw[HW0.out];omega)));clear hb1 hz1 KT HA hts;go_wp2_with fail
  obtain ⟨-,k2⟩:=zl9 hB.out;refine bodyPost_ret (v:=.tuple #[.agg #[.string ⟨#[]⟩,.bool false,.slice none 0 0,.slice none 0 0,.slice none 0 0],.bool false]) (by simp[results,Tryz.results17,go_sem, *]) rfl ?_;exact ⟨zka,_,_,_,rfl,rfl,zj4 _ _,k2.alloc k2.size _⟩
 | some ts=>
  rw[hts] at hread;obtain ⟨v1,rfl,hown,hb1⟩:=hread;obtain ⟨ta,cap,rfl⟩:=Kit.za5 hown;have hps0:=start hts hown;have hz1:=HZ.out.step hb1;have zf1:∀ o,w1.frozen? ⟨w.heap.size,o,none⟩=false:=fun o=>(hb1.frozen (p:=⟨w.heap.size,o,none⟩) HZ.out.1).trans (HZF.out o)
  have hlt:w.heap.size<w1.heap.size:=hz1.1;have HB1:=zH (HB0.out.trans (hb1.mono (by rw[HW0.out];omega)));obtain ⟨P,hP⟩:∃ P:Cst,P=⟨w1.heap.size,ta,cap,ts⟩:=⟨_,rfl⟩;rw[<-hP] at hps0;have hpbw:P.pb=w1.heap.size:=by rw[hP]
  have hN:P.toks=ts:=by rw[hP]
  have HP0:=zH hps0;have HPB:=zH hpbw;have HTS:=zH (show Tok.tokens s=some P.toks by rw[hN];exact hts)
  have HN:=zH hN;have hba:Below w1.heap.size w1 (w1.alloc (.cells #[.slice ta ts.length cap,.int .i64 0,.bool false] 58)):=(zB _ _).alloc (zL _) _;have HZ1:=zH (hz1.step hba);have HZF1:=zH (show ∀ o,(w1.alloc (.cells #[.slice ta ts.length cap,.int .i64 0,.bool false] 58)).frozen? ⟨w.heap.size,o,none⟩=false from fun o=>(hba.frozen (p:=⟨w.heap.size,o,none⟩) hz1.1).trans (zf1 o))
  have HBP:=zH (HB1.out.alloc HB1.out.size (.cells #[.slice ta ts.length cap,.int .i64 0,.bool false] 58));have hwp:(w1.alloc (.cells #[.slice ta ts.length cap,.int .i64 0,.bool false] 58)).heap.size=w1.heap.size+1:=by simp
  have HWP:=zH hwp;clear hown hb1 KT hts hz1 zf1 hpbw hba hps0 hP HZ HZF hN hwp;have KY:=fun hb=>zH (zcr HP0.out (k:=8) (c:=⟨#[99,108,97,115,115,109,101,116,104,111,100]⟩) hb)
  have KN:=fun hb=>zH (zfq HP0.out (k:=8) (c:=⟨#[99,108,97,115,115,109,101,116,104,111,100]⟩) hb)
  rw[HPB.out] at KY KN
  go_upto_region 5 with fail
  go_cut [7] from 19 to 19 (fun v wx=>∃ cls:Bool,v=.bool cls/\wd zb7 (rest P 0)=cls/\PS P (if cls then 1 else 0) false wx/\za2 P (w1.alloc (.cells #[.slice ta ts.length cap,.int .i64 0,.bool false] 58)) wx)
  case first=>
   go_wp2_with fail
   cases hb:isB 8 ⟨#[99,108,97,115,115,109,101,116,104,111,100]⟩ (rest P 0) with
   | true=>
    refine (KY hb).out.mono ?_;rintro e w2 ⟨rfl,h2,ht2⟩;have H2:=zH h2;have HT2:=zH ht2;have HB:=zH ((zgm zb7 (by decide) _).symm.trans hb);clear h2 ht2 hb;go_wp2_with fail
    go_meet
    exact ⟨true,rfl,HB.out,H2.out,HT2.out⟩
   | false=>
    refine (KN hb).out.mono ?_;rintro e w2 ⟨rfl,h2,ht2⟩;have H2:=zH h2;have HT2:=zH ht2;have HB:=zH ((zgm zb7 (by decide) _).symm.trans hb);clear h2 ht2 hb;go_wp2_with fail
    go_meet
    exact ⟨false,rfl,HB.out,H2.out,HT2.out⟩
  case rest=>
  obtain ⟨cls,rfl,hcls,h2,ht2⟩:=hcut;have HC:=zH hcls;have H2:=zH h2;have HT2:=zH ht2;clear hcls h2 ht2 KY KN HP0;rename_i w2
  go_upto_if 21 with fail
  go_cut [] from 22 to 22 (fun wx=>∃ q b,PS P q b wx/\za2 P (w1.alloc (.cells #[.slice ta ts.length cap,.int .i64 0,.bool false] 58)) wx/\(b=false->Gram.method (expr (P.toks.length+1)) (rest P 0)=zrv (expr (P.toks.length+1)) cls (rest P q))/\(b=true->Gram.method (expr (P.toks.length+1)) (rest P 0)=none))
  case first=>
   cases cls with
   | true=>
    go_wp2_with fail
    go_meet
    exact ⟨1,false,H2.out,HT2.out,(fun _=>z0a HC.out),fun e=>by cases e⟩
   | false=>
    have KN:=zH (zf0 H2.out 8 ⟨#[109,101,116,104,111,100]⟩);rw[HPB.out] at KN;go_wp2_with fail
    refine KN.out.mono ?_;rintro e w3 ⟨x,q,b,rfl,h3,ht3,-,-,hn3,hy3⟩;have H3:=zH h3;have HT3:=zH (HT2.out.trans ht3);have HM:=zH (z09 (ex:=expr (P.toks.length+1)) HC.out hn3 hy3);clear h3 ht3 hn3 hy3 KN;go_wp2_with fail
    go_meet
    exact ⟨q,b,H3.out,HT3.out,HM.out.1,HM.out.2⟩
  case rest=>
  obtain ⟨q,b,h3,ht3,hgo,hbad⟩:=hcut;have H3:=zH h3;have HT3:=zH ht3;have HGO:=zH hgo;have HBAD:=zH hbad;have c2:=h3.c2;rw[HPB.out] at c2;have hz3:=Cells.turn HZ1.out ht3 (by rw[HPB.out];omega);have zf:=zc0 HZF1.out HZ1.out.1 ht3 (by rw[HPB.out];omega);have HZ3:=zH hz3;have HZF3:=zH zf;have hbt:Below w.heap.size w wc:=HBP.out.trans ⟨ht3.os,ht3.tape,ht3.output,ht3.size,fun k hk=>World.grownBy.block ht3 k (by rw[HWP.out];omega) (by rw[HPB.out];simp;omega)⟩
  have HBT:=zH hbt;have hl3:w1.heap.size+1<=wc.heap.size:=by rw[<-HWP.out];exact ht3.size
  clear h3 ht3 hgo hbad hbt H2 HT2 HC;cases b with
  | true=>
   have hAn:A=none:=by rw[<-HA.out];unfold zdo;rw[zkb (m:=zka) (b:=true) HTS.out H3.out.le (HBAD.out rfl)];rfl
   subst hAn;have z0:=hz3.at 0 (.str ⟨#[]⟩) rfl;have z1:=hz3.at 1 (.bool false) rfl;have z2:=hz3.at 2 (.row 0 1 (.slice none 0 0) []) rfl;have z3:=hz3.at 3 (.row 0 1 (.slice none 0 0) []) rfl;have z4:=hz3.at 4 (.row 0 5 (.slice none 0 0) []) rfl;simp only[val] at z0 z1 z2 z3 z4;clear hz3;go_wp2_with fail
   obtain ⟨-,k2⟩:=zl9 HBT.out;refine bodyPost_ret (v:=.tuple #[.agg #[.string ⟨#[]⟩,.bool false,.slice none 0 0,.slice none 0 0,.slice none 0 0],.bool false]) (by simp[results,Tryz.results17,go_sem, *]) rfl ?_;exact ⟨zka,_,_,_,rfl,rfl,zj4 _ _,k2⟩
  | false=>
   have KM:=zH (zyg (cls:=cls) (zlv (P.toks.length+1)) H3.out (Nat.lt_succ_self _));rw[HPB.out] at KM;clear hz3 zf;go_wp2_with fail
   refine KM.out.mono ?_;rintro e w4 ⟨m,v2,v3,v4,q4,b4,rfl,hmc,hmat,h4,ht4,hg4⟩;obtain ⟨a2,n2,rfl,-⟩:=id hmat.params;obtain ⟨a3,n3,rfl,-⟩:=id hmat.temps;obtain ⟨a4,n4,rfl,-⟩:=id hmat.body;subst hmc;have hba:Below w4.heap.size w4 (w4.alloc (.cells #[.string m.sel,.bool m.cls,.slice a2 m.params.length n2,.slice a3 m.temps.length n3,.slice a4 m.body.length n4] 41)):=(zB _ _).alloc (zL _) _
   have HMAT:=zH (hmat.below hba);have h4':=h4.below hba;have HLE:=zH h4'.le;have c1:=h4'.c1;have c2:=h4'.c2;rw[HPB.out] at c1 c2;have hz4:=(Cells.turn HZ3.out ht4 (by rw[HPB.out];omega)).step hba;have hzf4:∀ o,(w4.alloc (.cells #[.string m.sel,.bool m.cls,.slice a2 m.params.length n2,.slice a3 m.temps.length n3,.slice a4 m.body.length n4] 41)).frozen? ⟨w.heap.size,o,none⟩=false:=fun o=>(hba.frozen (p:=⟨w.heap.size,o,none⟩) (Cells.turn HZ3.out ht4 (by rw[HPB.out];omega)).1).trans (zc0 HZF3.out HZ3.out.1 ht4 (by rw[HPB.out];omega) o)
   have HZ4:=zH hz4;have HZF4:=zH hzf4;have hbt4:Below w.heap.size w w4:=HBT.out.trans ⟨ht4.os,ht4.tape,ht4.output,ht4.size,fun k hk=>World.grownBy.block ht4 k (by omega) (by rw[HPB.out];simp;omega)⟩
   have HBT4:=zH (hbt4.trans (hba.mono hbt4.size));have HMC:=zH (zae w4 (Data.zp2 m (.slice a2 m.params.length n2) (.slice a3 m.temps.length n3) (.slice a4 m.body.length n4)) 41);have HSRC:=zH (zkb (m:=m) (b:=b4) HTS.out HLE.out ((HGO.out (by trivial)).trans hg4));have hl4:wc.heap.size<=w4.heap.size:=ht4.size;have hNl:P.toks.length=ts.length:=by rw[HN.out]
   have hqN:=HLE.out;rw[hNl] at hqN;have hl800:=H3.out.fit.len;rw[hNl] at hl800;clear hmat h4 h4' ht4 hg4 hba hbt4 KM HGO HBAD;cases b4 with
   | true=>
    have hAn:A=none:=by rw[<-HA.out];unfold zdo;rw[HSRC.out];rfl
    subst hAn;clear HA HSRC;have z0:=hz4.at 0 (.str ⟨#[]⟩) rfl;have z1:=hz4.at 1 (.bool false) rfl;have z2:=hz4.at 2 (.row 0 1 (.slice none 0 0) []) rfl;have z3:=hz4.at 3 (.row 0 1 (.slice none 0 0) []) rfl;have z4:=hz4.at 4 (.row 0 5 (.slice none 0 0) []) rfl;simp only[val] at z0 z1 z2 z3 z4;clear hz4;go_wp2_with fail
    obtain ⟨-,k2⟩:=zl9 HBT4.out;refine bodyPost_ret (v:=.tuple #[.agg #[.string ⟨#[]⟩,.bool false,.slice none 0 0,.slice none 0 0,.slice none 0 0],.bool false]) (by simp[results,Tryz.results17,go_sem, *]) rfl ?_;exact ⟨zka,_,_,_,rfl,rfl,zj4 _ _,k2⟩
   | false=>
    by_cases hq:q4=ts.length
    case neg=>
     have e1:((q4:Int) != (ts.length:Int))=true:=by simp;omega
     have hAn:A=none:=by rw[<-HA.out];unfold zdo;rw[HSRC.out];simp[hNl,hq]
     subst hAn;clear HA HSRC;have z0:=hz4.at 0 (.str ⟨#[]⟩) rfl;have z1:=hz4.at 1 (.bool false) rfl;have z2:=hz4.at 2 (.row 0 1 (.slice none 0 0) []) rfl;have z3:=hz4.at 3 (.row 0 1 (.slice none 0 0) []) rfl;have z4:=hz4.at 4 (.row 0 5 (.slice none 0 0) []) rfl;simp only[val] at z0 z1 z2 z3 z4;clear hz4;go_wp2_with fail
     obtain ⟨-,k2⟩:=zl9 HBT4.out;refine bodyPost_ret (v:=.tuple #[.agg #[.string ⟨#[]⟩,.bool false,.slice none 0 0,.slice none 0 0,.slice none 0 0],.bool false]) (by simp[results,Tryz.results17,go_sem, *]) rfl ?_;exact ⟨zka,_,_,_,rfl,rfl,zj4 _ _,k2⟩
    have e1:((q4:Int) != (ts.length:Int))=false:=by simp;omega
    have hsrc:zdq s=some m:=by rw[HSRC.out];simp[hNl,hq]
    have hwt:=zgi hsrc;have KE:=zH (Data.z1w HMAT.out (by omega));have HAN:Hid (A=if Data.zbi m=true then some m else none):=zH (by rw[<-HA.out];unfold zdo;rw[hsrc])
    subst hq;clear hsrc hwt HA HSRC hz4 hzf4 hqN hNl e1;cases hie:Data.zbi m with
    | false=>
     rw[hie] at KE;have hAn:A=none:=by rw[HAN.out,hie];rfl
     subst hAn;clear HAN hie;go_wp2_with fail
     refine KE.out.mono ?_;rintro e w7 ⟨rfl,hb7⟩;have hz7:=HZ4.out.step hb7;have hzf7:∀ o,w7.frozen? ⟨w.heap.size,o,none⟩=false:=fun o=>(hb7.frozen (p:=⟨w.heap.size,o,none⟩) HZ4.out.1).trans (HZF4.out o)
     have HB7:=zH (HBT4.out.trans (hb7.mono HBT4.out.size));have z0:=hz7.at 0 (.str ⟨#[]⟩) rfl;have z1:=hz7.at 1 (.bool false) rfl;have z2:=hz7.at 2 (.row 0 1 (.slice none 0 0) []) rfl;have z3:=hz7.at 3 (.row 0 1 (.slice none 0 0) []) rfl;have z4:=hz7.at 4 (.row 0 5 (.slice none 0 0) []) rfl;simp only[val] at z0 z1 z2 z3 z4;clear hb7 KE hz7;go_wp2_with fail
     obtain ⟨-,k2⟩:=zl9 HB7.out;refine bodyPost_ret (v:=.tuple #[.agg #[.string ⟨#[]⟩,.bool false,.slice none 0 0,.slice none 0 0,.slice none 0 0],.bool false]) (by simp[results,Tryz.results17,go_sem, *]) rfl ?_;exact ⟨zka,_,_,_,rfl,rfl,zj4 _ _,k2⟩
    | true=>
     rw[hie] at KE;have hAn:A=some m:=by rw[HAN.out,hie];rfl
     subst hAn;clear HAN hie;go_wp2_with fail
     refine KE.out.mono ?_;rintro e w7 ⟨rfl,hb7⟩;have hz7:=HZ4.out.step hb7;have hm7:=HMC.out.step hb7;have hzf7:∀ o,w7.frozen? ⟨w.heap.size,o,none⟩=false:=fun o=>(hb7.frozen (p:=⟨w.heap.size,o,none⟩) HZ4.out.1).trans (HZF4.out o)
     have HB7:=zH (HBT4.out.trans (hb7.mono HBT4.out.size));have HM7:=zH (HMAT.out.below hb7);have z0:=hz7.at 0 (.str ⟨#[]⟩) rfl;have z1:=hz7.at 1 (.bool false) rfl;have z2:=hz7.at 2 (.row 0 1 (.slice none 0 0) []) rfl;have z3:=hz7.at 3 (.row 0 1 (.slice none 0 0) []) rfl;have z4:=hz7.at 4 (.row 0 5 (.slice none 0 0) []) rfl;simp only[val] at z0 z1 z2 z3 z4;have y0:=hm7.at 0 (.str m.sel) rfl
     have y1:=hm7.at 1 (.bool m.cls) rfl;have y2:=hm7.at 2 (.row 0 1 (.slice a2 m.params.length n2) []) rfl;have y3:=hm7.at 3 (.row 0 1 (.slice a3 m.temps.length n3) []) rfl;have y4:=hm7.at 4 (.row 0 5 (.slice a4 m.body.length n4) []) rfl;simp only[val] at y0 y1 y2 y3 y4;clear hb7 KE hz7 hm7;go_wp2_with fail
     have k:=z9a HB7.out HM7.out (by omega) [.string m.sel,.bool m.cls,.slice a2 m.params.length n2,.slice a3 m.temps.length n3,.slice a4 m.body.length n4];refine bodyPost_ret (v:=.tuple #[.agg #[.string m.sel,.bool m.cls,.slice a2 m.params.length n2,.slice a3 m.temps.length n3,.slice a4 m.body.length n4],.bool true]) (by simp[results,Tryz.results17,go_sem, *]) rfl ?_;exact ⟨m,_,_,_,rfl,rfl,k.1,k.2⟩
theorem zvo (s:ByteArray) (w:World) (hs:s.size<=1048576):
  Calls Tryz.prog 17 #[.string s] w fun r w'=>∃ es,r=.returned (.tuple #[Data.agg es,.bool (zdo s).isSome])/\Data.zaa es=Data.zbc ((zdo s).getD zka)/\Data.zat 0 w' es/\Below w.heap.size w w':=by
 refine (zj0 s w hs).mono ?_;rintro e w' ⟨m,v2,v3,v4,rfl,hm,ha,hb⟩;have ha0:=MAt.keep ha (Nat.zero_le _) (fun _ _ _ _ h=>h)
 obtain ⟨d4,e4,h4⟩:=Data.zqy ha0.body 0;refine ⟨[.str m.sel,.bool m.cls,.row 0 1 v2 (Data.strs m.params),.row 0 1 v3 (Data.strs m.temps),.row 0 5 v4 d4],rfl,?_,?_,hb⟩
 ·rw[<-hm]
  simp only[Data.zaa,Data.erase,Data.zbc,Data.zzk,Data.zb0,e4]
 ·simp only[Data.zat,and_true]
  exact ⟨by simpa only[Data.Holds] using ha.sel,by simp only[Data.Holds],Data.zeu ha0.params 0,Data.zeu ha0.temps 0,h4⟩
theorem zse (s:ByteArray):Data.weights (Data.zbc ((zdo s).getD zka))<=4800:=by
 have hz:Data.weights (Data.zbc zka)<=4800:=by decide +kernel
 cases h:zdo s with
 | none=>exact hz
 | some m=>
  unfold zdo at h
  split at h
  ·cases h
  ·rename_i m' hm
   split at h
   ·cases h
    rw[Data.zc1];exact zgi hm
   ·cases h
theorem zr5 (s:ByteArray):Data.zdt (Data.zbc ((zdo s).getD zka))<=4611686018427387800:=by have h1:=zse s;have h2:=Data.zi7 ((zdo s).getD zka);omega
end Go.Proofs.YtlmhgeanknhcfaaGreatDoor.SpecParse
namespace Go.Proofs.YtlmhgeanknhcfaaGreatDoor.ParI
open Go.RowKit Go.Sort
open Strs Tree Gram Placed
open Go.Proofs.YtlmhgeanknhcfaaGreatDoor.Parser
theorem yd9.step {B:Nat} {k:Int} {s:ByteArray} {n:Int} {w w':World} (h:yd9 B k s n w) (hb:Below w.heap.size w w'):yd9 B k s n w':=
 ⟨Nat.lt_of_lt_of_le h.size hb.size,cell_keep hb h.c0,cell_keep hb h.c1,cell_keep hb h.c2⟩
end Go.Proofs.YtlmhgeanknhcfaaGreatDoor.ParI
namespace Go.Proofs.YtlmhgeanknhcfaaGreatDoor.TreeTo
open Go.RowKit
open Strs Tree zbv zgy
theorem Box.step {w wr w':World} {k:Int} {t:ByteArray} {n:Int} {vk x y:Value} (h:Box w k t n vk x y wr) (hb:Below wr.heap.size wr w'):Box w k t n vk x y w':=
 ⟨h.below.trans (hb.mono (by have:=h.size;omega)),Nat.le_trans h.size hb.size,cell_keep hb h.a4,cell_keep hb h.b0,cell_keep hb h.b1,cell_keep hb h.b2,cell_keep hb h.b3,cell_keep hb h.b4,
  cell_keep hb h.c0,cell_keep hb h.c1,cell_keep hb h.c2,cell_keep hb h.c3,cell_keep hb h.c4,
  fun o=>(hb.frozen (p:=⟨_,o,none⟩) (by have:=h.size;simp;omega)).trans (h.fb o),fun o=>(hb.frozen (p:=⟨_,o,none⟩) (by have:=h.size;simp;omega)).trans (h.fc o)⟩
end Go.Proofs.YtlmhgeanknhcfaaGreatDoor.TreeTo
namespace Go.Proofs.YtlmhgeanknhcfaaGreatDoor.ImplMeth
set_option maxHeartbeats 8000000
set_option maxRecDepth 10000
open Go.RowKit Go.Sort
open Strs Tree zgy TreeTo Go.Proofs.YtlmhgeanknhcfaaGreatDoor.Data Errs
open ImplTok (Part)
theorem z6l {w:World} {m:M} {ds:List D} {a:Addr} (hd:zaa ds=zbc m) (ho:Own 0 w ds) (hw:Data.weights (zaa ds)<=1048576) (he:Err w a):
  Calls Tryz.prog 54 #[agg ds] w fun r w'=>r=.returned (.bool (zbi m))/\Below w.heap.size w w':=by
 rw[hd,zc1] at hw;obtain ⟨v2,v3,v4,hag,hm⟩:=z4j hd ho.holds ho.strict;obtain ⟨t2,t3,t4,w2,w3,w4,d4,rfl,h4⟩:=zh1 hd;have hsoft:zea 0 w m.body w4:=zpw h4 (row_iff.1 (Own.right (a:=[.str m.sel,.bool m.cls,.row t2 1 w2 (strs m.params),.row t3 1 w3 (strs m.temps)]) (b:=[.row t4 5 w4 d4]) ho))
 have hvv:v2=w2/\v3=w3/\v4=w4:=by have:=congrArg Array.toList (Value.agg.inj hag);simp[vals,val] at this;exact ⟨this.1.symm,this.2.1.symm,this.2.2.symm⟩
 obtain ⟨rfl,rfl,rfl⟩:=hvv;rw[hag];have hst:MSt w m v2 v3 v4:=⟨hm,hsoft⟩;have hb0:Below w.heap.size w (w.alloc (.cells #[.string m.sel,.bool m.cls,v2,v3,v4] 41)):=(zB _ _).alloc (zL _) _;have hz:=zae w (zp2 m v2 v3 v4) 41;have hz0:=hz.at 0 (.str m.sel) rfl;have hz1:=hz.at 1 (.bool m.cls) rfl;have hz2:=hz.at 2 (.row 0 1 v2 []) rfl;have hz3:=hz.at 3 (.row 0 1 v3 []) rfl;have hz4:=hz.at 4 (.row 0 5 v4 []) rfl
 have hc:zqa (w.alloc (.cells #[.string m.sel,.bool m.cls,v2,v3,v4] 41)) w.heap.size 0 m v2 v3 v4:=⟨hz0,hz1,hz2,hz3,hz4⟩;have KC:=fun d os=>zH (Calls.regrown_of (w:=w.alloc (.cells #[.string m.sel,.bool m.cls,v2,v3,v4] 41)) (d:=d) (os:=os) (zve ((hst.below hb0).below (below_regrown _ d os)) (hc.step (below_regrown _ d os)) hw ((he.keep hb0).keep (below_regrown _ d os))))
 have KI:=fun d os=>zH (Calls.regrown_of (w:=w.alloc (.cells #[.string m.sel,.bool m.cls,v2,v3,v4] 41)) (d:=d) (os:=os) ((ze4 (zbi m) a _).mono (fun e w' h=>(⟨h.1,by rw[h.2];exact zB _ _⟩:e=.returned (.bool (!zbi m))/\Below _ _ w'))))
 have ke:=zpl (he.keep hb0);have HB0:=zH hb0;clear hd ho hw he hag hm hsoft hst hb0 hz hz0 hz1 hz2 hz3 hz4 hc;generalize zbi m=R at *;go_enter Tryz.func54,Tryz.ntmps54;go_wp2_with fail
 refine wp_region_quiet_below (by kernel_rfl) (by kernel_rfl) ?_
 repeat (go_big_quiet_step (first|(go_at_call 105;exact (KC _ _).out)|(go_at_call 46;exact (KI _ _).out)))
 refine wpQuiet_nil ?_;intro w5 hw5;have HB5:=zH (HB0.out.trans ((zev hw5).mono HB0.out.size));clear hw5 KC KI ke;go_wp2_with fail
 go_ret;exact ⟨by simp,HB5.out⟩
end Go.Proofs.YtlmhgeanknhcfaaGreatDoor.ImplMeth
