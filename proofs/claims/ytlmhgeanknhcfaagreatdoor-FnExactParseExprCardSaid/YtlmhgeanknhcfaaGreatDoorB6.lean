/-
  ParseBlock ParsePrim ParseOff ParseUn
-/
import Derived.Test.YtlmhgeanknhcfaaGreatDoorB4
set_option maxHeartbeats 8000000
set_option maxRecDepth 10000
namespace Go.Proofs.YtlmhgeanknhcfaaGreatDoor
namespace Parser
open Go.RowKit
open Strs Tree Gram
theorem ztl (r:R):isB 7 ⟨#[58]⟩ r=mk ziu r:=ziv ziu (by decide) r
theorem z5z (r:R):isB 7 ⟨#[124]⟩ r=mk znh r:=ziv znh (by decide) r
theorem zmd (r:R):isB 7 ⟨#[93]⟩ r=mk znw r:=ziv znw (by decide) r
theorem zy4 {ps:List ByteArray} {r:R} (h:mk ziu r=false):zcb ps r=some (ps,r):=by
 match r,h with
 | [],_=>rw[zcb]
 | [t],h=>rw[zcb,if_neg (by rw[h];simp)]
 | t::u::r,h=>rw[zcb,if_neg (by rw[show mk ziu [t]=mk ziu (t::u::r) from rfl,h];simp)]
theorem yae {ps:List ByteArray} {r:R} (h:mk ziu r=true) (h2:hd 1 r.tail=false):zcb ps r=none:=by
 match r,h,h2 with
 | [t],h,_=>rw[zcb,if_pos h]
 | t::u::r,h,h2=>
  rw[zcb,if_pos (show mk ziu [t]=true from h),if_neg]
  simpa [hd] using h2
theorem z98 {ps:List ByteArray} {r:R} (h:mk ziu r=true) (h2:hd 1 r.tail=true):zcb ps r=zcb (ps++[txt r.tail]) r.tail.tail:=by
 match r,h,h2 with
 | [t],_,h2=>cases h2
 | t::u::r,h,h2=>
  rw[zcb,if_pos (show mk ziu [t]=true from h),if_pos]
  ·rfl
  ·simpa [hd] using h2
theorem zqw {P:Cst} {ex:X} {r0:R} {ps ts:List ByteArray} {ks:List E} {q1 q2 q3 q4 q5:Nat} {b1 b2 b3 b4 b5:Bool}
  (h1:zcb [] r0=Got b1 (ps,rest P q1))
  (h2:(b2=false->b1=false/\((ps.length=0/\q2=q1)\/(¬ps.length=0/\mk znh (rest P q1)=true/\q2=q1+1)))/\(b2=true->b1=true\/(¬ps.length=0/\mk znh (rest P q1)=false)))
  (h3:(b3=false->b2=false/\names (rest P q2)=some (ts,rest P q3))/\(b3=true->b2=true\/names (rest P q2)=none))
  (h4:(b3=true->b4=true)/\(b3=false->zby ex [] (rest P q3)=Got b4 (ks,rest P q4)))
  (h5:(b5=false->b4=false/\mk znw (rest P q4)=true/\q5=q4+1)/\(b5=true->b4=true\/mk znw (rest P q4)=false)):
  block ex r0=Got b5 (ziw ps ts ks,rest P q5):=by
 unfold block;rw[h1];cases b1 with
 | true=>
  have e2:b2=true:=by cases b2 with|true=>rfl|false=>exact (h2.1 rfl).1.symm
  have e3:b3=true:=by cases b3 with|true=>rfl|false=>exact ((h3.1 rfl).1.symm.trans e2)
  have e4:=h4.1 e3;have e5:b5=true:=by cases b5 with|true=>rfl|false=>exact ((h5.1 rfl).1.symm.trans e4)
  rw[e5];rfl
 | false=>
  simp only[Got,Bool.false_eq_true,if_false];cases b2 with
  | true=>
   obtain h|h:=h2.2 rfl
   ·cases h
   have e3:b3=true:=by cases b3 with|true=>rfl|false=>exact (h3.1 rfl).1.symm
   have e4:=h4.1 e3;have e5:b5=true:=by cases b5 with|true=>rfl|false=>exact ((h5.1 rfl).1.symm.trans e4)
   rw[if_neg (by rw[h.2];simp[h.1]),e5];rfl
  | false=>
   obtain ⟨-,h2⟩:=h2.1 rfl
   have hc:ps.length=0\/mk znh (rest P q1)=true:=by
    rcases h2 with h|h
    ·exact .inl h.1
    ·exact .inr h.2.1
   have hr:(if ps.length=0 then rest P q1 else (rest P q1).tail)=rest P q2:=by
    rcases h2 with h|h
    ·rw[if_pos h.1,h.2]
    ·rw[if_neg h.1,zab,h.2.2]
   rw[if_pos hc,hr];cases b3 with
   | true=>
    obtain h|h:=h3.2 rfl
    ·cases h
    have e4:=h4.1 rfl;have e5:b5=true:=by cases b5 with|true=>rfl|false=>exact ((h5.1 rfl).1.symm.trans e4)
    rw[h,e5];rfl
   | false=>
    rw[(h3.1 rfl).2];simp only;rw[h4.2 rfl];cases b4 with
    | true=>
     have e5:b5=true:=by cases b5 with|true=>rfl|false=>exact (h5.1 rfl).1.symm
     rw[e5];rfl
    | false=>
     simp only[Got,Bool.false_eq_true,if_false];cases b5 with
     | true=>
      obtain h|h:=h5.2 rfl
      ·cases h
      rw[if_neg (by rw[h];simp)];rfl
     | false=>obtain ⟨-,h6,rfl⟩:=h5.1 rfl;rw[if_pos h6,zab];rfl
def ybq (P:Cst) (w:World) (b:Bool) (g:Option (List E×R)) (e:Ending) (w':World):Prop:=
 ∃ v L q b',e=.returned v/\zhb w.heap.size w' L v/\PS P q b' w'/\za2 P w w'/\(b=true->b'=true)/\(b=false->g=Got b' (zbu L,rest P q))
theorem zvq {n:Nat} (hx:XC n) {P:Cst} {p:Nat} {b:Bool} {w:World} (h:PS P p b w) (hn:b=false->(rest P p).length<n):
  Calls Tryz.prog 57 #[.pointer (some ⟨P.pb,0,none⟩)] w (ybq P w b (zby (expr n) [] (rest P p))):=by
 cases b with
 | true=>
  refine (ydk h).mono ?_;rintro e w' ⟨v,L,q,b,he,h1,h2,h3,h4⟩
  have hb:b=true:=by
   cases b with
   | true=>rfl
   | false=>cases h4
  exact ⟨v,L,q,b,he,h1,h2,h3,fun _=>hb,(fun e=>nomatch e)⟩
 | false=>refine (yds hx h (hn rfl)).mono ?_;rintro e w' ⟨v,L,q,b,he,h1,h2,h3,h4⟩;exact ⟨v,L,q,b,he,h1,h2,h3,(fun e=>nomatch e),fun _=>h4⟩
theorem za2.ziz {P:Cst} {w a b:World} (h:za2 P a b) (hp:P.pb<w.heap.size):Kept w.heap.size a b:=h.kept.mono (by omega)
theorem z03 {n:Nat} (hx:XC n) {P:Cst} {p:Nat} {w:World} (h:PS P p false w) (hn:(rest P p).length<n):
  Calls Tryz.prog 179 #[.pointer (some ⟨P.pb,0,none⟩)] w (ycl P w (block (expr n) (rest P p))):=by
 obtain ⟨i0,hi,hz0,hz1,hz2⟩:=info_parts zs6;have KT1:=fun (w1:World) (q:Nat) (b:Bool) (c:ByteArray) (h1:PS P q b w1) (hb:isB 7 c (rest P q)=true)=>zH (zcr h1 hb)
 have KT0:=fun (w1:World) (q:Nat) (b:Bool) (c:ByteArray) (h1:PS P q b w1) (hb:isB 7 c (rest P q)=false)=>zH (zfq h1 hb)
 have KN:=fun (w1:World) (q:Nat) (b:Bool) (k:Int) (c:ByteArray) (h1:PS P q b w1)=>zH (zf0 h1 k c)
 have KM:=fun (w1:World) (q:Nat) (b:Bool) (h1:PS P q b w1)=>zH (zfk h1)
 have KS:=fun (w1:World) (q:Nat) (b:Bool) (h1:PS P q b w1) (hl:b=false->(rest P q).length<n)=>zH (zvq hx h1 hl)
 have hb0:Below w.heap.size w ((w.alloc (.cells #[.int .i64 0,.string ⟨#[]⟩,.int .i64 0,.slice none 0 0,.slice none 0 0] 25)).alloc (.cells #[] 9)):=((zB _ _).alloc (zL _) _).alloc (by simp) _;have H1:=zH (h.below hb0);have HT:=zH ((za2.refl P w).low hb0);have HZ:Hid (Zero w.heap.size ((w.alloc (.cells #[.int .i64 0,.string ⟨#[]⟩,.int .i64 0,.slice none 0 0,.slice none 0 0] 25)).alloc (.cells #[] 9))):=zH ((zcd w _).step ((zB _ _).alloc (zL _) _))
 have HO:Hid (((w.alloc (.cells #[.int .i64 0,.string ⟨#[]⟩,.int .i64 0,.slice none 0 0,.slice none 0 0] 25)).alloc (.cells #[] 9)).ownsRow (w.heap.size+1) 9 1 (.slice (some ⟨w.heap.size+1,0,none⟩) 0 0) 0 ([].map Value.string)):=by
  have e1:(w.alloc (.cells #[.int .i64 0,.string ⟨#[]⟩,.int .i64 0,.slice none 0 0,.slice none 0 0] 25)).heap.size=w.heap.size+1:=by simp
  have:=World.ownsRow_lit (base:=w.heap.size+1) (e:=9) (size:=1) (w.alloc (.cells #[.int .i64 0,.string ⟨#[]⟩,.int .i64 0,.slice none 0 0,.slice none 0 0] 25)) #[] 0 (by rw[e1];exact zL _) (Nat.zero_le _) rfl;rw[e1] at this;exact this
 have HLO:=zH (h.lo.le (Nat.le_succ _));have HLO0:=zH h.lo;have hpbl:=h.size;have h8:=h.fit.len;have hpl:=h.le;have HN:=zH hn;clear h hn hx hb0;generalize hpb:P.pb=pb at *;generalize hNN:P.toks.length=N at *;have HPB:=zH hpb;clear hpb;have HNN:=zH hNN;clear hNN;go_enter Tryz.func179,Tryz.ntmps179;go_wp2_with fail
 go_loopw [3] (fun v wr=>∃ (ps:List ByteArray) (q:Nat) (b:Bool),p<=q/\q<=N/\ps.length<=q/\(∀ x,x∈ps->x.size<=maxLen)/\PS P q b wr/\za2 P w wr/\wr.ownsRow (w.heap.size+1) 9 1 v ps.length (ps.map Value.string)/\v≠.slice none 0 0/\Zero w.heap.size wr/\(b=false->zcb [] (rest P p)=zcb ps (rest P q))/\(b=true->zcb [] (rest P p)=none)) (fun _ wr=>N-plc pb wr)
 case atStart=>exact ⟨[],p,false,zL _,hpl,Nat.zero_le _,(fun _ h=>nomatch h),H1.out,HT.out,HO.out,by simp,HZ.out,fun _=>rfl,(fun h=>nomatch h)⟩
 case round=>
  obtain ⟨ps,q,b,hpq,hqN,hlen,hsz,hps,htr,hown,hnn,hz,hgood,hbad⟩:=hrel;have hps':=hps;have HSZ:=zH hsz;clear hsz;have HPS:=zH hps;have HTR:=zH htr;have HO1:=zH hown;have HNL:=zH hnn;have HZ1:=zH hz;have HGD:=zH (And.intro hgood hbad);clear hgood hbad;have hpl2:plc pb wr=q:=by rw[<-HPB.out];exact hps'.plc
  have HPL:=zH hpl2;have hgw:=Nat.le_trans (Nat.le_succ w.heap.size) (show w.heap.size+1<=wr.heap.size from hz.size)
  obtain ⟨ra,rc,rfl⟩:=Kit.za5 hown;clear hps hps' htr hown hnn hz hpl2;cases hcol:isB 7 ⟨#[58]⟩ (rest P q) with
  | true=>
   have hq4:q<N:=by rw[<-HNN.out];exact zkc hcol
   have HCOL:=zH (hcol.symm.trans (ztl _)).symm;have K:=KT1 wr q b _ HPS.out hcol;clear hcol;go_wp2_with fail
   refine K.out.mono ?_;rintro e w2 ⟨rfl,h2,ht2⟩;have H2:=zH h2;have HT2:=zH (HTR.out.trans ht2);have HZ2:=zH (HZ1.out.turn ht2 (by rw[HPB.out];omega));have HO2:=zH (zcg HO1.out ht2 (by rw[HPB.out];omega));clear h2 ht2 K;go_wp2_with fail
   refine (KN _ _ _ _ _ H2.out).out.mono ?_;rintro e w3 ⟨x,q3,b3,rfl,h3,ht3,hxs,hq3,hy1,hy2⟩;have H3:=zH h3;have HT3:=zH (HT2.out.trans ht3);have HZ3:=zH (HZ2.out.turn ht3 (by rw[HPB.out];omega));have HO3:=zH (zcg HO2.out ht3 (by rw[HPB.out];omega));have HY:=zH (And.intro hy1 hy2);clear hy1 hy2;have hg3:w.heap.size+1<=w3.heap.size:=HZ3.out.size;have hq3N:q3<=N:=by rw[<-HNN.out];exact h3.le
   clear h3 ht3;go_wp2_with (at_builtin;go_must (refine wpList_append_own _ rfl _ _ 22 rfl (w.heap.size+1) 9 i0 (.string ByteArray.empty) 1 16 Tryz.underlying22 hi hz0 hz1 hz2 rfl (by decide) _ _ _ rfl (HO3.out.alloc _) ⟨w3.heap.size,0,none⟩ 1 1 [.string x] rfl rfl ?c1 ?c2 ?c3 ?c4 ?c5 ?_))
   case c1=>exact Kit.zes _ _ _
   case c2=>exact Kit.zi5 _
   case c3=>unfold maxLen;omega
   case c4=>omega
   case c5=>simp;omega
   intro v' w4 hown' hgr hnn';have HOWN:=zH hown';have HNL':Hid (v'≠.slice none 0 0):=zH hnn';have hlow:=zdy hg3 HO3.out hgr;have HPS4:=zH (H3.out.low hlow HLO.out);have HT4:=zH (HT3.out.low (hlow.mono (Nat.le_succ _)));have HZ4:=zH (HZ3.out.low hlow (Nat.lt_succ_self _));clear hown' hgr hnn' hlow;go_wp2_with fail
   go_roundw
   case rel=>
    refine ⟨ps++[x],q3,b3,by omega,hq3N,by simp;omega,?_,HPS4.out,HT4.out,by simpa using HOWN.out,HNL'.out,HZ4.out,fun e=>?_,fun e=>?_⟩
    ·intro y hy
     rcases List.mem_append.1 hy with hy|hy
     ·exact HSZ.out y hy
     ·rw[List.mem_singleton.1 hy];unfold maxLen;omega
    ·obtain ⟨e1,e2,rfl,rfl⟩:=HY.out.1 e
     rw[HGD.out.1 e1,z98 HCOL.out (by rw[zab,<-zbw];exact e2),zab,zab]
    ·rcases HY.out.2 e with e1|e1
     ·exact HGD.out.2 e1
     ·cases b with
      | true=>exact HGD.out.2 rfl
      | false=>rw[HGD.out.1 rfl,yae HCOL.out (by rw[zab,<-zbw];exact e1)]
   case measure=>have h1:=HPS4.out.plc;rw[HPB.out] at h1;rw[h1,HPL.out];omega
  | false=>
   have HCOL:=zH (hcol.symm.trans (ztl _)).symm;have K:=KT0 wr q b _ HPS.out hcol
   have F1:Hid (zcb [] (rest P p)=Got b (ps,rest P q)):=by
    show _=_
    cases b with
    | true=>exact HGD.out.2 rfl
    | false=>rw[HGD.out.1 rfl,zy4 HCOL.out];rfl
   clear hcol;by_cases hp0:ps.length=0
   ·have i0':¬(0:Int)<(ps.length:Int):=by omega
    have HP0:=zH hp0;clear hp0;go_wp2_with fail
    refine K.out.mono ?_;rintro e w4 ⟨rfl,h4,ht4⟩;obtain ⟨q2,hq2⟩:∃ q2,q2=q:=⟨_,rfl⟩;obtain ⟨b2,hb2⟩:∃ b2,b2=b:=⟨_,rfl⟩;have F2:Hid ((b2=false->b=false/\((ps.length=0/\q2=q)\/(¬ps.length=0/\mk znh (rest P q)=true/\q2=q+1)))/\(b2=true->b=true\/(¬ps.length=0/\mk znh (rest P q)=false))):=zH ⟨fun e=>⟨hb2.symm.trans e,.inl ⟨HP0.out,hq2⟩⟩,fun e=>.inl (hb2.symm.trans e)⟩
    have H4:Hid (PS P q2 b2 w4):=zH (by rw[hq2,hb2];exact h4);have HT4:=zH (HTR.out.trans ht4);have HZ4:=zH (HZ1.out.turn ht4 (by rw[HPB.out];omega));have HP4:=zH (zj8 (zcg HO1.out ht4 (by rw[HPB.out];omega)) HNL.out (zL (w.heap.size+1)) HSZ.out);clear h4 ht4 K hq2 hb2;go_wp2_with fail
    refine (KM _ _ _ H4.out).out.mono ?_;rintro e w5 ⟨vt,ts,q3,b3,rfl,ht5,htl,h5,hu5,hf1,hf2⟩;have F3:=zH (zh9 hf1 hf2);clear hf1 hf2;have H5:=zH h5;have HT5:=zH (HT4.out.trans hu5);have HZ5:=zH (HZ4.out.turn hu5 (by rw[HPB.out];omega));have HP5:=zH (HP4.out.keep ((hu5.ziz (by rw[HPB.out];exact hpbl)).mono (Nat.le_succ _)));have HV5:=zH (ht5.mono (show w.heap.size+1<=w4.heap.size from HZ4.out.size))
    clear h5 hu5 ht5;go_wp2_with fail
    have hq3:b3=false->(rest P q3).length<n:=fun e=>by
     obtain ⟨e2,hnm⟩:=F3.out.1 e;have h1:=zmk hnm
     have h2:p<=q2:=by
      rcases (F2.out.1 e2).2 with h|h
      ·omega
      ·omega
     have h3:=HN.out;rw[zaf] at h1 h3;rw[zaf] at h1;rw[zaf];omega
    refine (KS _ _ _ H5.out hq3).out.mono ?_;clear hq3;rintro e w6 ⟨vk,L,q4,b4,rfl,hk6,h6,hu6,hs1,hs2⟩;have F4:=zH (And.intro hs1 hs2);clear hs1 hs2;have H6:=zH h6;have HT6:=zH (HT5.out.trans hu6);have HZ6:=zH (HZ5.out.turn hu6 (by rw[HPB.out];omega));have HP6:=zH (HP5.out.keep ((hu6.ziz (by rw[HPB.out];exact hpbl)).mono (Nat.le_succ _)));have HV6:=zH (HV5.out.keep ((hu6.ziz (by rw[HPB.out];exact hpbl)).mono (Nat.le_succ _)))
    have HK6:=zH (hk6.mono (show w.heap.size+1<=w5.heap.size from HZ5.out.size))
    clear h6 hu6 hk6;go_wp2_with fail
    refine (KN _ _ _ _ _ H6.out).out.mono ?_;rintro e w7 ⟨s7,q5,b5,rfl,h7,hu7,-,-,hr1,hr2⟩;have F5:=zH (And.intro hr1 hr2);clear hr1 hr2;have H7:=zH h7;have HT7:=zH (HT6.out.trans hu7);have HZ7:=zH (HZ6.out.turn hu7 (by rw[HPB.out];omega));have HP7:=zH (HP6.out.keep ((hu7.ziz (by rw[HPB.out];exact hpbl)).mono (Nat.le_succ _)));have HV7:=zH (HV6.out.keep ((hu7.ziz (by rw[HPB.out];exact hpbl)).mono (Nat.le_succ _)))
    have HK7:=zH (HK6.out.keep ((hu7.ziz (by rw[HPB.out];exact hpbl)).mono (Nat.le_succ _)));clear h7 hu7;have hp800:ps.length<=800:=Nat.le_trans hlen (Nat.le_trans hqN h8);have KB:=ze8 HP7.out HV7.out HK7.out.kids hp800 htl (show w.heap.size+1<=w7.heap.size from HZ7.out.size)
    have KB:=zH KB;go_wp2_with fail
    refine KB.out.mono ?_;rintro e w8 ⟨v8,rfl,hr8,hb8⟩;have H8:=zH (H7.out.below hb8);have HT8:=zH (HT7.out.below hb8);have HBK:=zH (zqw (q5:=q5) (b5:=b5) F1.out F2.out F3.out F4.out ⟨fun e=>by (have h:=F5.out.1 e;exact ⟨h.1,(zmd _).symm.trans h.2.1,h.2.2.1⟩),fun e=>(F5.out.2 e).imp id (fun h=>(zmd _).symm.trans h)⟩)
    generalize ziw ps ts (zbu L)=t8 at *;obtain ⟨xn,xk,rfl,hnode⟩:=hr8;obtain ⟨xa,xl,xc,ya,yl,yc,rfl,rfl⟩:=zcw hnode;have HNODE:=zH hnode;obtain ⟨hsz8,z0,z1,z2,z3,z4,fz⟩:=HZ7.out.step hb8;clear hb8 hnode;go_wp2_with fail
    refine bodyPost_ret (v:=.agg #[.int .i64 t8.kind,.string t8.text,.int .i64 t8.num,.slice xa xl xc,.slice ya yl yc]) (by simp[results,Tryz.results179,go_sem, *]) rfl ?_;have hb9:=zai (zB w.heap.size w8) (B:=w.heap.size) (zL _) (.int .i64 t8.kind) (.string t8.text) (.int .i64 t8.num) (.slice xa xl xc) (.slice ya yl yc);exact ⟨_,t8,q5,b5,rfl,⟨_,_,rfl,zaw.keep (Nat.le_succ _) (zcl w8 (Nat.lt_succ_self _) _ _ _ _ _) _ _ _ HNODE.out⟩,H8.out.low hb9 HLO0.out,HT8.out.low hb9,HBK.out⟩
   ·have i0':(0:Int)<(ps.length:Int):=by omega
    have HP0:=zH hp0;clear hp0;go_wp2_with fail
    refine K.out.mono ?_;rintro e w3 ⟨rfl,h3,ht3⟩;have H3:=zH h3;have HT3:=zH (HTR.out.trans ht3);have HZ3:=zH (HZ1.out.turn ht3 (by rw[HPB.out];omega));have HO3:=zH (zcg HO1.out ht3 (by rw[HPB.out];omega));clear h3 ht3 K;go_wp2_with fail
    refine (KN _ _ _ _ _ H3.out).out.mono ?_;rintro e w4 ⟨x,q2,b2,rfl,h4,ht4,-,-,hy1,hy2⟩
    have F2:Hid ((b2=false->b=false/\((ps.length=0/\q2=q)\/(¬ps.length=0/\mk znh (rest P q)=true/\q2=q+1)))/\(b2=true->b=true\/(¬ps.length=0/\mk znh (rest P q)=false))):=by
     refine zH ⟨fun e=>?_,fun e=>?_⟩
     ·obtain ⟨e1,e2,e3,-⟩:=hy1 e
      exact ⟨e1,.inr ⟨HP0.out,by rw[<-z5z];exact e2,e3⟩⟩
     ·rcases hy2 e with e1|e1
      ·exact .inl e1
      ·exact .inr ⟨HP0.out,by rw[<-z5z];exact e1⟩
    have H4:=zH h4;have HT4:=zH (HT3.out.trans ht4);have HZ4:=zH (HZ3.out.turn ht4 (by rw[HPB.out];omega));have HP4:=zH (zj8 (zcg HO3.out ht4 (by rw[HPB.out];omega)) HNL.out (zL (w.heap.size+1)) HSZ.out);clear h4 ht4 hy1 hy2;go_wp2_with fail
    refine (KM _ _ _ H4.out).out.mono ?_;rintro e w5 ⟨vt,ts,q3,b3,rfl,ht5,htl,h5,hu5,hf1,hf2⟩;have F3:=zH (zh9 hf1 hf2);clear hf1 hf2;have H5:=zH h5;have HT5:=zH (HT4.out.trans hu5);have HZ5:=zH (HZ4.out.turn hu5 (by rw[HPB.out];omega));have HP5:=zH (HP4.out.keep ((hu5.ziz (by rw[HPB.out];exact hpbl)).mono (Nat.le_succ _)));have HV5:=zH (ht5.mono (show w.heap.size+1<=w4.heap.size from HZ4.out.size))
    clear h5 hu5 ht5;go_wp2_with fail
    have hq3:b3=false->(rest P q3).length<n:=fun e=>by
     obtain ⟨e2,hnm⟩:=F3.out.1 e;have h1:=zmk hnm
     have h2:p<=q2:=by
      rcases (F2.out.1 e2).2 with h|h
      ·omega
      ·omega
     have h3:=HN.out;rw[zaf] at h1 h3;rw[zaf] at h1;rw[zaf];omega
    refine (KS _ _ _ H5.out hq3).out.mono ?_;clear hq3;rintro e w6 ⟨vk,L,q4,b4,rfl,hk6,h6,hu6,hs1,hs2⟩;have F4:=zH (And.intro hs1 hs2);clear hs1 hs2;have H6:=zH h6;have HT6:=zH (HT5.out.trans hu6);have HZ6:=zH (HZ5.out.turn hu6 (by rw[HPB.out];omega));have HP6:=zH (HP5.out.keep ((hu6.ziz (by rw[HPB.out];exact hpbl)).mono (Nat.le_succ _)));have HV6:=zH (HV5.out.keep ((hu6.ziz (by rw[HPB.out];exact hpbl)).mono (Nat.le_succ _)))
    have HK6:=zH (hk6.mono (show w.heap.size+1<=w5.heap.size from HZ5.out.size))
    clear h6 hu6 hk6;go_wp2_with fail
    refine (KN _ _ _ _ _ H6.out).out.mono ?_;rintro e w7 ⟨s7,q5,b5,rfl,h7,hu7,-,-,hr1,hr2⟩;have F5:=zH (And.intro hr1 hr2);clear hr1 hr2;have H7:=zH h7;have HT7:=zH (HT6.out.trans hu7);have HZ7:=zH (HZ6.out.turn hu7 (by rw[HPB.out];omega));have HP7:=zH (HP6.out.keep ((hu7.ziz (by rw[HPB.out];exact hpbl)).mono (Nat.le_succ _)));have HV7:=zH (HV6.out.keep ((hu7.ziz (by rw[HPB.out];exact hpbl)).mono (Nat.le_succ _)))
    have HK7:=zH (HK6.out.keep ((hu7.ziz (by rw[HPB.out];exact hpbl)).mono (Nat.le_succ _)));clear h7 hu7;have hp800:ps.length<=800:=Nat.le_trans hlen (Nat.le_trans hqN h8);have KB:=ze8 HP7.out HV7.out HK7.out.kids hp800 htl (show w.heap.size+1<=w7.heap.size from HZ7.out.size)
    have KB:=zH KB;go_wp2_with fail
    refine KB.out.mono ?_;rintro e w8 ⟨v8,rfl,hr8,hb8⟩;have H8:=zH (H7.out.below hb8);have HT8:=zH (HT7.out.below hb8);have HBK:=zH (zqw (q5:=q5) (b5:=b5) F1.out F2.out F3.out F4.out ⟨fun e=>by (have h:=F5.out.1 e;exact ⟨h.1,(zmd _).symm.trans h.2.1,h.2.2.1⟩),fun e=>(F5.out.2 e).imp id (fun h=>(zmd _).symm.trans h)⟩)
    generalize ziw ps ts (zbu L)=t8 at *;obtain ⟨xn,xk,rfl,hnode⟩:=hr8;obtain ⟨xa,xl,xc,ya,yl,yc,rfl,rfl⟩:=zcw hnode;have HNODE:=zH hnode;obtain ⟨hsz8,z0,z1,z2,z3,z4,fz⟩:=HZ7.out.step hb8;clear hb8 hnode;go_wp2_with fail
    refine bodyPost_ret (v:=.agg #[.int .i64 t8.kind,.string t8.text,.int .i64 t8.num,.slice xa xl xc,.slice ya yl yc]) (by simp[results,Tryz.results179,go_sem, *]) rfl ?_;have hb9:=zai (zB w.heap.size w8) (B:=w.heap.size) (zL _) (.int .i64 t8.kind) (.string t8.text) (.int .i64 t8.num) (.slice xa xl xc) (.slice ya yl yc);exact ⟨_,t8,q5,b5,rfl,⟨_,_,rfl,zaw.keep (Nat.le_succ _) (zcl w8 (Nat.lt_succ_self _) _ _ _ _ _) _ _ _ HNODE.out⟩,H8.out.low hb9 HLO0.out,HT8.out.low hb9,HBK.out⟩
end Parser
namespace Parser
open Go.RowKit
open Strs Tree Gram
structure zjd (B:Nat) (a b c d e:Value) (wr:World):Prop where
 size:B<wr.heap.size
 z0:wr.cell? ⟨B,0,none⟩=some a
 z1:wr.cell? ⟨B,1,none⟩=some b
 z2:wr.cell? ⟨B,2,none⟩=some c
 z3:wr.cell? ⟨B,3,none⟩=some d
 z4:wr.cell? ⟨B,4,none⟩=some e
 fz:∀ o,wr.frozen? ⟨B,o,none⟩=false
theorem zjd.same {B:Nat} {a b c d e:Value} {wr w':World} (h:zjd B a b c d e wr) (hs:wr.heap.size<=w'.heap.size) (hb:w'.heap[B]?=wr.heap[B]?):zjd B a b c d e w':=by
 have hc:∀ o,w'.cell? ⟨B,o,none⟩=wr.cell? ⟨B,o,none⟩:=fun o=>World.cell?_of_block (a:=⟨B,o,none⟩) hb
 have hf:∀ o,w'.frozen? ⟨B,o,none⟩=wr.frozen? ⟨B,o,none⟩:=fun o=>World.frozen?_of_block (a:=⟨B,o,none⟩) hb
 exact ⟨Nat.lt_of_lt_of_le h.size hs,(hc 0).trans h.z0,(hc 1).trans h.z1,(hc 2).trans h.z2,(hc 3).trans h.z3,(hc 4).trans h.z4,fun o=>(hf o).trans (h.fz o)⟩
theorem zjd.low {B base:Nat} {a b c d e:Value} {wr w':World} (h:zjd B a b c d e wr) (hb:Below base wr w') (hB:B<base):zjd B a b c d e w':=h.same hb.size (hb.block B hB)
theorem zjd.step {B:Nat} {a b c d e:Value} {wr w':World} (h:zjd B a b c d e wr) (hb:Below wr.heap.size wr w'):zjd B a b c d e w':=h.low hb h.size
theorem zjd.turn {P:Cst} {B:Nat} {a b c d e:Value} {wr w':World} (h:zjd B a b c d e wr) (ht:za2 P wr w') (hB:B≠P.pb):zjd B a b c d e w':=h.same ht.size (World.grownBy.block ht B h.size (by simpa using hB))
theorem zcq (w:World) (a b c d e:Value) (T:TypeId):zjd w.heap.size a b c d e (w.alloc (.cells #[a,b,c,d,e] T)):=by
 refine ⟨by simp,?_,?_,?_,?_,?_,fun o=>?_⟩
 all_goals go_simp
theorem zfi {lo:Nat} {w:World} {k:Int} {t:ByteArray} {n:Int} (hk:(Lit.int .i64 k).wf=true) (hn:(Lit.int .i64 n).wf=true) (ht:t.size<=maxLen):zaw lo w (.mk k t n [] []) (.slice none 0 0) (.slice none 0 0):=
 zbn.2 ⟨hk,hn,ht,ze2 _ _,(zhb.nil lo w).kids⟩
theorem zqj {ex:X} {t:Tok.T} {r:R} (h:t.kind=7) (h2:t.text=zgs):zbf ex (t::r)=match ex r with|none=>none|some (e,r1)=>if mk zle r1 then some (e,r1.tail) else none:=by
 have:mk zgs [t]=true:=by simp[mk,h,h2]
 rw[zbf,if_neg (by omega),if_neg (by omega),if_neg (by omega),if_neg (by omega),if_pos this];cases ex r<;>rfl
theorem zqz {ex:X} {t:Tok.T} {r:R} (h:t.kind=7) (h2:t.text=zhc):zbf ex (t::r)=block ex r:=by
 have h0:mk zgs [t]=false:=by simp[mk,h,h2];decide
 have:mk zhc [t]=true:=by simp[mk,h,h2]
 rw[zbf,if_neg (by omega),if_neg (by omega),if_neg (by omega),if_neg (by omega),if_neg (by rw[h0];simp),if_pos this]
theorem zpb {ex:X} {t:Tok.T} {r:R} (h1:¬t.kind=1) (h3:¬t.kind=3) (h4:¬t.kind=4) (h5:¬t.kind=5) (h7:t.kind=7->¬t.text=zgs/\¬t.text=zhc):zbf ex (t::r)=none:=by
 have h0:mk zgs [t]=false:=by
  by_cases h:t.kind=7
  ·simp[mk,h,(h7 h).1]
  ·simp[mk,h]
 have h2:mk zhc [t]=false:=by
  by_cases h:t.kind=7
  ·simp[mk,h,(h7 h).2]
  ·simp[mk,h]
 rw[zbf,if_neg h1,if_neg h3,if_neg h4,if_neg h5,if_neg (by rw[h0];simp),if_neg (by rw[h2];simp)]
theorem ztj (r:R):isB 7 ⟨#[41]⟩ r=mk zle r:=ziv zle (by decide) r
theorem z0x {P:Cst} {ex:X} {t:Tok.T} {r:R} (h:t.kind=7) (h2:t.text=zgs) {t4:E} {q4 q5:Nat} {b4 b5:Bool} (h4:ex r=Got b4 (t4,rest P q4))
  (hy1:b5=false->b4=false/\mk zle (rest P q4)=true/\q5=q4+1) (hy2:b5=true->b4=true\/mk zle (rest P q4)=false):zbf ex (t::r)=Got b5 (t4,rest P q5):=by
 rw[zqj h h2,h4];cases b4 with
 | true=>
  have e5:b5=true:=by cases b5 with|true=>rfl|false=>exact (hy1 rfl).1.symm
  rw[e5];rfl
 | false=>
  simp only[Got,Bool.false_eq_true,if_false];cases b5 with
  | true=>
   obtain h|h:=hy2 rfl
   ·cases h
   rw[if_neg (by rw[h];simp)];rfl
  | false=>obtain ⟨-,h6,rfl⟩:=hy1 rfl;rw[if_pos h6,zab];rfl
theorem zwv {ex:X} {P:Cst} {p:Nat} {w:World} (h:PS P p false w) (hr:rest P p=[]):
  Calls Tryz.prog 149 #[.pointer (some ⟨P.pb,0,none⟩)] w (ycl P w (zbf ex (rest P p))):=by
 have hp:=zn4 h.le hr;rw[hr];have hb0:Below w.heap.size w (w.alloc (.cells #[.int .i64 0,.string ⟨#[]⟩,.int .i64 0,.slice none 0 0,.slice none 0 0] 25)):=(zB _ _).alloc (zL _) _;have h1:=h.below hb0;have H1:=zH h1;have HT:=zH ((za2.refl P w).low hb0);have HZ:=zH (zcd w 25);have HLO:=zH h.lo;have hl:=h.fit.len;have hpbl:=h.size;have c0:=h1.c0;have c1:=h1.c1
 clear h hr h1 hb0;generalize hg:zbf ex []=g;have HG:Hid (g=none):=zH (by rw[<-hg];rfl);clear hg;generalize P.toks.length=n at *;subst hp;generalize hpb:P.pb=pb at *;have HPB:=zH hpb;clear hpb;go_enter Tryz.func149,Tryz.ntmps149;go_wp2_with fail
 go_quiet (fail)
 generalize hw1:(w.alloc (.cells #[.int .i64 0,.string ⟨#[]⟩,.int .i64 0,.slice none 0 0,.slice none 0 0] 25)).drewN _=w1;have HW:zge (w.alloc (.cells #[.int .i64 0,.string ⟨#[]⟩,.int .i64 0,.slice none 0 0,.slice none 0 0] 25)) w1:=⟨_,hw1.symm⟩;have h2:=H1.out.drawn HW;have H2:=zH h2;have HT2:=zH (HT.out.drawn HW);obtain ⟨hsz,z0,z1,z2,z3,z4,fz⟩:=HZ.out.step HW.below;have c2:=h2.c2;have fzp:=h2.fz
 rw[HPB.out] at c2 fzp;clear hw1 HW h2 c0 c1;go_wp2_with fail
 have hb9:=zai (zB w.heap.size (w1.setCell ⟨pb,2,none⟩ (.bool true))) (B:=w.heap.size) (zL _) (.int .i64 0) (.string ⟨#[]⟩) (.int .i64 0) (.slice none 0 0) (.slice none 0 0);have h3:=H2.out.no;have ht3:=HT2.out.set 2 (.bool true);rw[HPB.out] at h3 ht3;refine bodyPost_ret (v:=.agg #[.int .i64 0,.string ⟨#[]⟩,.int .i64 0,.slice none 0 0,.slice none 0 0]) (by simp[results,Tryz.results149,go_sem, *]) rfl ?_
 exact ⟨_,.mk 0 none_ 0 [] [],p,true,rfl,⟨_,_,rfl,zfi (by rfl) (by rfl) (Nat.zero_le _)⟩,h3.low hb9 HLO.out,ht3.low hb9,HG.out⟩
theorem ztz {n:Nat} (hx:XC n) {P:Cst} {p:Nat} {w:World} (h:PS P p false w) (hn:(rest P p).length<=n) {t:Tok.T} {r:R} (hr:rest P p=t::r):
  Calls Tryz.prog 149 #[.pointer (some ⟨P.pb,0,none⟩)] w (ycl P w (zbf (expr n) (rest P p))):=by
 obtain ⟨hp,ht,hr1⟩:=zb8 hr;have hb0:Below w.heap.size w (w.alloc (.cells #[.int .i64 0,.string ⟨#[]⟩,.int .i64 0,.slice none 0 0,.slice none 0 0] 25)):=(zB _ _).alloc (zL _) _;have h1:=h.below hb0;have H1:=zH h1;have HT:=zH ((za2.refl P w).low hb0);have HZ:=zH (zcd w 25);have HLO:=zH h.lo;have hl:=h.fit.len;have hpbl:=h.size;have c0:=h1.c0;have c1:=h1.c1
 obtain ⟨tb,to,hta,hne,d0,d1,d2⟩:=h1.tok p t ht;rw[hta] at c0;have hcap:=h.fit.cap;have KX:=zH fun (w1:World) (h1:PS P (p+1) false w1)=>hx P (p+1) w1 h1 (by rw[hr1];rw[hr] at hn;simp at hn;omega)
 have KB:=zH fun (w1:World) (h1:PS P (p+1) false w1)=>z03 hx h1 (by rw[hr1];rw[hr] at hn;simp at hn;omega)
 have KN:=fun (w1:World) (q:Nat) (b:Bool) (k:Int) (c:ByteArray) (h1:PS P q b w1)=>zH (zf0 h1 k c)
 have HWF:Hid ((t.text.size<=maxLen/\(Lit.int .i64 0).wf=true)/\(Lit.int .i64 t.num).wf=true):=zH ⟨⟨Nat.le_trans (h.fit.text t (List.mem_of_getElem? ht)) (by unfold maxLen;omega),by rfl⟩,h.fit.num t (List.mem_of_getElem? ht)⟩
 have HR1:=zH hr1;obtain ⟨tk,tt,tn⟩:=t;simp only at d0 d1 d2 HWF;have HR:=zH hr;have HP1:=zH hp;generalize hG:zbf (expr n) (rest P p)=G;have HG:Hid (G=zbf (expr n) (rest P p)):=zH hG.symm;clear h hr h1 hb0 hn hx hta ht hr1 hG;generalize hNN:P.toks.length=N at *;have HNN:=zH hNN;clear hNN;generalize P.cap=cap at *;generalize hpb:P.pb=pb at *;have HPB:=zH hpb;clear hpb
 go_enter Tryz.func149,Tryz.ntmps149;go_wp2_with fail
 go_quiet (fail)
 generalize hw1:(w.alloc (.cells #[.int .i64 0,.string ⟨#[]⟩,.int .i64 0,.slice none 0 0,.slice none 0 0] 25)).drewN _=w1;have HW:zge (w.alloc (.cells #[.int .i64 0,.string ⟨#[]⟩,.int .i64 0,.slice none 0 0,.slice none 0 0] 25)) w1:=⟨_,hw1.symm⟩;have H2:=zH (H1.out.drawn HW);have HT2:=zH (HT.out.drawn HW);have HZ2:=zH (HZ.out.step HW.below);have hb:=HW.below;have c0:=cell_keep hb c0
 have c1:=cell_keep hb c1;have d0:=cell_keep hb d0;have d1:=cell_keep hb d1;have d2:=cell_keep hb d2;have hlt:=cell_lt d0;have hlp:=cell_lt c0;clear hw1 HW hb;go_wp2_with fail
 go_region
 have x0:(w1.alloc (Obj.cells #[.int .i64 tk,.string tt,.int .i64 tn] 94)).drew.cell? ⟨w1.heap.size,0,none⟩=some (.int .i64 tk):=by go_simp
 have x1:(w1.alloc (Obj.cells #[.int .i64 tk,.string tt,.int .i64 tn] 94)).drew.cell? ⟨w1.heap.size,1,none⟩=some (.string tt):=by go_simp
 have x2:(w1.alloc (Obj.cells #[.int .i64 tk,.string tt,.int .i64 tn] 94)).drew.cell? ⟨w1.heap.size,2,none⟩=some (.int .i64 tn):=by go_simp
 have hbl:Below w1.heap.size w1 (w1.alloc (Obj.cells #[.int .i64 tk,.string tt,.int .i64 tn] 94)).drew:=((zB _ _).alloc (zL _) _).drew;generalize (w1.alloc (Obj.cells #[.int .i64 tk,.string tt,.int .i64 tn] 94)).drew=w2 at *;have h2:=H2.out.below hbl;have ht2:=HT2.out.below hbl;have hz2:=HZ2.out.step hbl;have hB1:w.heap.size<w1.heap.size:=HZ2.out.size;have c1:=h2.c1;have c2:=h2.c2
 have fzp:=h2.fz;rw[HPB.out] at c1 c2 fzp;have h3:=h2.go (p+1) (by have:=HP1.out;have:=HNN.out;omega);have ht3:=ht2.set 1 (.int .i64 ((p:Int)+1));rw[HPB.out] at h3 ht3;have H3:=zH h3;have HT3:=zH ht3;have HZ3:Hid (Zero w.heap.size (w2.setCell ⟨pb,1,none⟩ (.int .i64 ((p:Int)+1)))):=zH (hz2.same (by simp[World.setCell]) (Below.heap_setCell _ _ _ _ (by simp;omega)));obtain ⟨hsz,z0,z1,z2,z3,z4,fz⟩:=hz2
 clear hbl d0 d1 d2 c0 hlt h2 ht2 h3 ht3 H1 HT HZ H2 HT2 HZ2;by_cases h1:tk=1
 ·subst h1
  have HG2:Hid (G=Got false (z0l tt,rest P (p+1))):=zH (by rw[HG.out,HR.out,zbf,if_pos rfl,<-HR1.out];rfl);go_wp2_with fail
  refine bodyPost_ret (v:=.agg #[.int .i64 4,.string tt,.int .i64 0,.slice none 0 0,.slice none 0 0]) (by simp[results,Tryz.results149,go_sem, *]) rfl ?_;have hb9:=zai (zB w.heap.size (w2.setCell ⟨pb,1,none⟩ (.int .i64 ((p:Int)+1)))) (B:=w.heap.size) (zL _) (.int .i64 4) (.string tt) (.int .i64 0) (.slice none 0 0) (.slice none 0 0);exact ⟨_,z0l tt,p+1,false,rfl,⟨_,_,rfl,zfi (by rfl) HWF.out.1.2 HWF.out.1.1⟩,H3.out.low hb9 HLO.out,HT3.out.low hb9,HG2.out⟩
 by_cases h3:tk=3
 ·subst h3
  have HG2:Hid (G=Got false (.mk 1 none_ tn [] [],rest P (p+1))):=zH (by rw[HG.out,HR.out,zbf,if_neg (by simp),if_pos rfl,<-HR1.out];rfl)
  go_wp2_with fail
  refine bodyPost_ret (v:=.agg #[.int .i64 1,.string ⟨#[]⟩,.int .i64 tn,.slice none 0 0,.slice none 0 0]) (by simp[results,Tryz.results149,go_sem, *]) rfl ?_;have hb9:=zai (zB w.heap.size (w2.setCell ⟨pb,1,none⟩ (.int .i64 ((p:Int)+1)))) (B:=w.heap.size) (zL _) (.int .i64 1) (.string ⟨#[]⟩) (.int .i64 tn) (.slice none 0 0) (.slice none 0 0);exact ⟨_,.mk 1 none_ tn [] [],p+1,false,rfl,⟨_,_,rfl,zfi (by rfl) HWF.out.2 (Nat.zero_le _)⟩,H3.out.low hb9 HLO.out,HT3.out.low hb9,HG2.out⟩
 by_cases h4:tk=4
 ·subst h4
  have HG2:Hid (G=Got false (.mk 2 tt 0 [] [],rest P (p+1))):=zH (by rw[HG.out,HR.out,zbf,if_neg (by simp),if_neg (by simp),if_pos rfl,<-HR1.out];rfl)
  go_wp2_with fail
  refine bodyPost_ret (v:=.agg #[.int .i64 2,.string tt,.int .i64 0,.slice none 0 0,.slice none 0 0]) (by simp[results,Tryz.results149,go_sem, *]) rfl ?_;have hb9:=zai (zB w.heap.size (w2.setCell ⟨pb,1,none⟩ (.int .i64 ((p:Int)+1)))) (B:=w.heap.size) (zL _) (.int .i64 2) (.string tt) (.int .i64 0) (.slice none 0 0) (.slice none 0 0);exact ⟨_,.mk 2 tt 0 [] [],p+1,false,rfl,⟨_,_,rfl,zfi (by rfl) HWF.out.1.2 HWF.out.1.1⟩,H3.out.low hb9 HLO.out,HT3.out.low hb9,HG2.out⟩
 by_cases h5:tk=5
 ·subst h5
  have HG2:Hid (G=Got false (.mk 3 tt 0 [] [],rest P (p+1))):=zH (by rw[HG.out,HR.out,zbf,if_neg (by simp),if_neg (by simp),if_neg (by simp),if_pos rfl,<-HR1.out];rfl)
  go_wp2_with fail
  refine bodyPost_ret (v:=.agg #[.int .i64 3,.string tt,.int .i64 0,.slice none 0 0,.slice none 0 0]) (by simp[results,Tryz.results149,go_sem, *]) rfl ?_;have hb9:=zai (zB w.heap.size (w2.setCell ⟨pb,1,none⟩ (.int .i64 ((p:Int)+1)))) (B:=w.heap.size) (zL _) (.int .i64 3) (.string tt) (.int .i64 0) (.slice none 0 0) (.slice none 0 0);exact ⟨_,.mk 3 tt 0 [] [],p+1,false,rfl,⟨_,_,rfl,zfi (by rfl) HWF.out.1.2 HWF.out.1.1⟩,H3.out.low hb9 HLO.out,HT3.out.low hb9,HG2.out⟩
 have b1:(tk==1)=false:=by rw[zen,decide_eq_false h1]
 have b3:(tk==3)=false:=by rw[zen,decide_eq_false h3]
 have b4:(tk==4)=false:=by rw[zen,decide_eq_false h4]
 have b5:(tk==5)=false:=by rw[zen,decide_eq_false h5]
 by_cases h7:tk=7
 case neg=>
  have b7:(tk==7)=false:=by rw[zen,decide_eq_false h7]
  have hg:G=none:=by rw[HG.out,HR.out];exact zpb (t:=⟨tk,tt,tn⟩) h1 h3 h4 h5 (fun e=>absurd e h7)
  have HG5:Hid (G=Got true (E.mk 0 none_ 0 [] [],rest P (p+1))):=zH hg;clear hg HG;go_wp2_with fail
  have hb9:=zai (zB w.heap.size ((w2.setCell ⟨pb,1,none⟩ (.int .i64 ((p:Int)+1))).setCell ⟨pb,2,none⟩ (.bool true))) (B:=w.heap.size) (zL _) (.int .i64 0) (.string ⟨#[]⟩) (.int .i64 0) (.slice none 0 0) (.slice none 0 0);have h9:=H3.out.no;have ht9:=HT3.out.set 2 (.bool true);rw[HPB.out] at h9 ht9;refine bodyPost_ret (v:=.agg #[.int .i64 0,.string ⟨#[]⟩,.int .i64 0,.slice none 0 0,.slice none 0 0]) (by simp[results,Tryz.results149,go_sem, *]) rfl ?_
  exact ⟨_,.mk 0 none_ 0 [] [],p+1,true,rfl,⟨_,_,rfl,zfi (by rfl) (by rfl) (Nat.zero_le _)⟩,h9.low hb9 HLO.out,ht9.low hb9,HG5.out⟩
 subst h7;clear h1 h3 h4 h5 b1 b3 b4 b5;by_cases g1:tt=zgs
 ·subst g1
  have HGO:=zH HG.out;clear HG;unfold zgs at *;go_wp2_with fail
  refine (KX.out _ H3.out).mono ?_;rintro e w4 ⟨v4,t4,q4,b4,rfl,hr4,h4,ht4,hg4⟩;obtain ⟨xn,xk,rfl,hnode⟩:=hr4;obtain ⟨xa,xl,xc,ya,yl,yc,rfl,rfl⟩:=zcw hnode;have hba:∀ o,Below w4.heap.size w4 (w4.alloc o):=fun o=>(zB _ _).alloc (zL _) o
  have H4:=zH (h4.below (hba (.cells #[.int .i64 t4.kind,.string t4.text,.int .i64 t4.num,.slice xa xl xc,.slice ya yl yc] 25)));have HT4:=zH ((HT3.out.trans ht4).below (hba (.cells #[.int .i64 t4.kind,.string t4.text,.int .i64 t4.num,.slice xa xl xc,.slice ya yl yc] 25)));have HZ4:=zH ((HZ3.out.turn ht4 (by rw[HPB.out];omega)).step (hba (.cells #[.int .i64 t4.kind,.string t4.text,.int .i64 t4.num,.slice xa xl xc,.slice ya yl yc] 25)))
  have HF4:=zH (zcq w4 (.int .i64 t4.kind) (.string t4.text) (.int .i64 t4.num) (.slice xa xl xc) (.slice ya yl yc) 25);have HN4:=zH ((zaw.keep (lo:=w.heap.size+1) HZ3.out.size (fun _ _ _ _ hc=>hc) _ _ _ hnode).below (hba (.cells #[.int .i64 t4.kind,.string t4.text,.int .i64 t4.num,.slice xa xl xc,.slice ya yl yc] 25)))
  have HG4:=zH hg4;have hpb4:pb<w4.heap.size:=by rw[<-HPB.out];exact h4.size
  clear h4 ht4 hnode hg4 hba;go_wp2_with fail
  refine (KN _ _ _ _ _ H4.out).out.mono ?_;rintro e w5 ⟨x,q5,b5,rfl,h5,ht5,-,-,hy1,hy2⟩;have H5:=zH h5;have HT5:=zH (HT4.out.trans ht5);have HN5:=zH (zaw.keep (zL _) ((ht5.ziz (w:=w) (by rw[HPB.out];exact hpbl)).mono (Nat.le_succ _)) _ _ _ HN4.out);obtain ⟨hsz5,f0,f1,f2,f3,f4,ffz⟩:=HF4.out.turn ht5 (by rw[HPB.out];omega);obtain ⟨hsz6,y0,y1,y2,y3,y4,yfz⟩:=HZ4.out.turn ht5 (by rw[HPB.out];omega)
  have HG5:Hid (G=Got b5 (t4,rest P q5)):=by
   show _=_
   rw[HGO.out,HR.out];exact z0x rfl rfl (by rw[<-HR1.out];exact HG4.out) (fun e=>by (have h:=hy1 e;exact ⟨h.1,(ztj _).symm.trans h.2.1,h.2.2.1⟩)) (fun e=>(hy2 e).imp id (fun h=>(ztj _).symm.trans h))
  clear h5 ht5 hy1 hy2 z0 z1 z2 z3 z4 fz x0 x1 x2;go_wp2_with fail
  have hb9:=zai (zB w.heap.size w5) (B:=w.heap.size) (zL _) (.int .i64 t4.kind) (.string t4.text) (.int .i64 t4.num) (.slice xa xl xc) (.slice ya yl yc);refine bodyPost_ret (v:=.agg #[.int .i64 t4.kind,.string t4.text,.int .i64 t4.num,.slice xa xl xc,.slice ya yl yc]) (by simp[results,Tryz.results149,go_sem, *]) rfl ?_;exact ⟨_,t4,q5,b5,rfl,⟨_,_,rfl,zaw.keep (lo:=w.heap.size) (hi:=w.heap.size+1) (Nat.le_succ _) (zcl w5 (Nat.lt_succ_self _) _ _ _ _ _) _ _ _ HN5.out⟩,H5.out.low hb9 HLO.out,HT5.out.low hb9,HG5.out⟩
 by_cases g2:tt=zhc
 ·subst g2
  have HGO:=zH HG.out;clear HG;unfold zhc at *;go_wp2_with fail
  refine (KB.out _ H3.out).mono ?_;rintro e w5 ⟨v4,t4,q5,b5,rfl,hr4,h5,ht5,hg4⟩;obtain ⟨xn,xk,rfl,hnode⟩:=hr4;obtain ⟨xa,xl,xc,ya,yl,yc,rfl,rfl⟩:=zcw hnode;have H5:=zH h5;have HT5:=zH (HT3.out.trans ht5);have HN5:=zH (zaw.keep (lo:=w.heap.size+1) HZ3.out.size (fun _ _ _ _ hc=>hc) _ _ _ hnode)
  obtain ⟨hsz6,y0,y1,y2,y3,y4,yfz⟩:=HZ3.out.turn ht5 (by rw[HPB.out];omega)
  have HG5:Hid (G=Got b5 (t4,rest P q5)):=by
   show _=_
   rw[HGO.out,HR.out,zqz (t:=⟨7,⟨#[91]⟩,tn⟩) rfl rfl,<-HR1.out];exact hg4
  clear h5 ht5 hnode hg4 z0 z1 z2 z3 z4 fz x0 x1 x2;go_wp2_with fail
  have hb9:=zai (zB w.heap.size w5) (B:=w.heap.size) (zL _) (.int .i64 t4.kind) (.string t4.text) (.int .i64 t4.num) (.slice xa xl xc) (.slice ya yl yc);refine bodyPost_ret (v:=.agg #[.int .i64 t4.kind,.string t4.text,.int .i64 t4.num,.slice xa xl xc,.slice ya yl yc]) (by simp[results,Tryz.results149,go_sem, *]) rfl ?_;exact ⟨_,t4,q5,b5,rfl,⟨_,_,rfl,zaw.keep (lo:=w.heap.size) (hi:=w.heap.size+1) (Nat.le_succ _) (zcl w5 (Nat.lt_succ_self _) _ _ _ _ _) _ _ _ HN5.out⟩,H5.out.low hb9 HLO.out,HT5.out.low hb9,HG5.out⟩
 ·have e1:(tt.toList==[40])=false:=by
   have:=zim g1;rw[ByteArray.toList_eq zgs] at this;exact this
  have e2:(tt.toList==[91])=false:=by have:=zim g2;rw[ByteArray.toList_eq zhc] at this;exact this
  have hg:G=none:=by rw[HG.out,HR.out];exact zpb (t:=⟨7,tt,tn⟩) (by simp) (by simp) (by simp) (by simp) (fun _=>⟨g1,g2⟩)
  have HG5:Hid (G=Got true (E.mk 0 none_ 0 [] [],rest P (p+1))):=zH hg;clear hg HG g1 g2;go_wp2_with fail
  have hb9:=zai (zB w.heap.size ((w2.setCell ⟨pb,1,none⟩ (.int .i64 ((p:Int)+1))).setCell ⟨pb,2,none⟩ (.bool true))) (B:=w.heap.size) (zL _) (.int .i64 0) (.string ⟨#[]⟩) (.int .i64 0) (.slice none 0 0) (.slice none 0 0);have h9:=H3.out.no;have ht9:=HT3.out.set 2 (.bool true);rw[HPB.out] at h9 ht9;refine bodyPost_ret (v:=.agg #[.int .i64 0,.string ⟨#[]⟩,.int .i64 0,.slice none 0 0,.slice none 0 0]) (by simp[results,Tryz.results149,go_sem, *]) rfl ?_
  exact ⟨_,.mk 0 none_ 0 [] [],p+1,true,rfl,⟨_,_,rfl,zfi (by rfl) (by rfl) (Nat.zero_le _)⟩,h9.low hb9 HLO.out,ht9.low hb9,HG5.out⟩
theorem zup {n:Nat} (hx:XC n) {P:Cst} {p:Nat} {w:World} (h:PS P p false w) (hn:(rest P p).length<=n):
  Calls Tryz.prog 149 #[.pointer (some ⟨P.pb,0,none⟩)] w (ycl P w (zbf (expr n) (rest P p))):=by
 cases hr:rest P p with
 | nil=>rw[<-hr];exact zwv h hr
 | cons t r=>rw[<-hr];exact ztz hx h hn hr
end Parser
namespace Parser
open Go.RowKit
open Strs Tree Gram
def erase (B:Nat) (w:World):World:={ w with heap:=w.heap.setIfInBounds B (.cells #[] 0) }
theorem zpr {B b:Nat} {w:World} (h:b≠B):(erase B w).heap[b]?=w.heap[b]?:=by unfold erase;simp only;rw[Array.getElem?_setIfInBounds_ne (Ne.symm h)]
theorem zfn {B b o:Nat} {w:World} {v:Value}:(erase B w).cell? ⟨b,o,none⟩=some v↔b≠B/\w.cell? ⟨b,o,none⟩=some v:=by
 by_cases h:b=B
 ·subst h
  refine ⟨fun e=>?_,fun e=>absurd rfl e.1⟩
  have hlt:=cell_lt e;have hs:(erase b w).heap.size=w.heap.size:=by unfold erase;simp
  rw[hs] at hlt;simp only at hlt
  have:(erase b w).heap[b]?=some (.cells #[] 0):=by unfold erase;simp only;rw[Array.getElem?_setIfInBounds_self_of_lt hlt]
  unfold World.cell? at e;simp only[this] at e;simp at e
 ·rw[World.cell?_of_block (a:=⟨b,o,none⟩) (zpr h)]
  exact ⟨fun e=>⟨h,e⟩,fun e=>e.2⟩
def Off (B lo:Nat) (w:World) (e:E) (vn vk:Value):Prop:=zaw lo (erase B w) e vn vk
theorem zz0 (B lo:Nat) (w:World):Kept lo (erase B w) w:=fun _ _ _ _ hc=>(zfn.1 hc).2
theorem Off.on {B lo:Nat} {w:World} {e:E} {vn vk:Value} (h:Off B lo w e vn vk):zaw lo w e vn vk:=zaw.keep (zL _) (zz0 B lo w) _ _ _ h
def zi2 (B lo:Nat) (w w':World):Prop:=Kept lo (erase B w) (erase B w')
theorem z9v {B lo:Nat} {w w':World} (h:Kept lo w w'):zi2 B lo w w':=fun b o v hb hc=>by obtain ⟨h1,h2⟩:=zfn.1 hc;exact zfn.2 ⟨h1,h b o v hb h2⟩
theorem zph {B lo:Nat} (w:World) (o:Nat) (u:Value):zi2 B lo w (w.setCell ⟨B,o,none⟩ u):=fun b p v _ hc=>by obtain ⟨h1,h2⟩:=zfn.1 hc;refine zfn.2 ⟨h1,?_⟩;rw[World.cell?_setCell_other _ _ _ _ (by intro e;injection e with e1 e2 e3;exact h1 e1.symm)];exact h2
theorem zi2.trans {B lo:Nat} {a b c:World} (h:zi2 B lo a b) (k:zi2 B lo b c):zi2 B lo a c:=Kept.trans h k
theorem zr2 {B lo:Nat} (w:World) (a b c d e:Value):zi2 B lo w (zgq w B a b c d e):=
 ((((zph w 0 a).trans (zph _ 1 b)).trans (zph _ 2 c)).trans (zph _ 3 d)).trans (zph _ 4 e)
theorem Off.keep {B lo:Nat} {w w':World} {e:E} {vn vk:Value} (h:Off B lo w e vn vk) (k:zi2 B lo w w'):Off B lo w' e vn vk:=zaw.keep (zL _) k _ _ _ h
theorem Off.kept {B lo:Nat} {w w':World} {e:E} {vn vk:Value} (h:Off B lo w e vn vk) (k:Kept lo w w'):Off B lo w' e vn vk:=h.keep (z9v k)
theorem zxc {B lo:Nat} {w w':World} {e:E} {vn vk:Value} (h:zaw lo w e vn vk) (hB:w.heap.size<=B) (k:Kept lo w w'):Off B lo w' e vn vk:=
 zaw.keep (zL _) (fun b o v hb hc=>zfn.2 ⟨by have:=cell_lt hc;simp only at this;omega,k b o v hb hc⟩) _ _ _ h
theorem zs9 {B lo l1:Nat} {w:World} {e:E} {vn vk:Value} (h:zaw l1 w e vn vk) (hl:lo<=l1) (hB:B<l1):Off B lo w e vn vk:=
 zaw.keep hl (fun b o v hb hc=>zfn.2 ⟨by omega,hc⟩) _ _ _ h
theorem z6r {w:World} {base:Nat} {e:TypeId} {size:Nat} {v:Value} {n:Nat} {xs:List Value} (h:w.ownsRow base e size v n xs) {B:Nat} (hB:B<base):(erase B w).ownsRow base e size v n xs:=by
 refine ⟨h.1,?_⟩;rcases h.2 with hn|⟨g,cap,cur,rfl,hbg,hgg,rest⟩
 ·exact .inl hn
 ·refine .inr ⟨g,cap,cur,rfl,hbg,?_,rest⟩
  rw[zpr (by omega)];exact hgg
theorem zsi {B lo base:Nat} {w w':World} {e:E} {vn vk vk':Value} {L:List Item} {s:ByteArray} (h:Off B lo w e vn vk) (ha:∀ x,x∈L->Off B lo w x.1 x.2.1 x.2.2) (hs:s.size<=maxLen) (hb:Below w.heap.size w w')
  (ho:w'.ownsRow base 25 5 vk' (L.length+1) (ziy ((e,vn,vk)::L))) (hlo:lo<=base) (hB:B<base):Off B lo w' (zec e s (zbu L)) (.slice none 0 0) vk':=by
 have hk:=zr0 (lo:=lo) (L:=(e,vn,vk)::L) (z6r ho hB) hlo fun x hx=>by
  rcases List.mem_cons.1 hx with rfl|hx
  ·exact Off.kept h (za1 hb)
  ·exact Off.kept (ha x hx) (za1 hb)
 exact zbn.2 ⟨by rfl,by rfl,hs,ze2 _ _,hk.kids⟩
end Parser
namespace Parser
open Go.RowKit
open Strs Tree Gram
theorem ycf {e:E} {s:Bool} {r:R} (h:hd 1 r=false):zdn e s r=(e,s,r):=by
 cases r with
 | nil=>rfl
 | cons t r=>rw[zdn,if_neg];simpa [hd] using h
theorem yfb {e:E} {s:Bool} {r:R} (h:hd 1 r=true):zdn e s r=zdn (zec e (txt r) []) true r.tail:=by
 cases r with
 | nil=>cases h
 | cons t r=>
  rw[zdn,if_pos];· rfl
  simpa [hd] using h
theorem zgr {B:Nat} {a b c d e a' b' c' d' e':Value} {w:World} (h:zjd B a' b' c' d' e' w):zjd B a b c d e (zgq w B a b c d e):=by
 obtain ⟨hs,z0,z1,z2,z3,z4,fz⟩:=h;unfold zgq;refine ⟨by simpa [World.setCell] using hs,?_,?_,?_,?_,?_,fun o=>?_⟩
 all_goals first|go_simp|(have:=fz o;go_simp)
theorem znb {n:Nat} (hx:XC n) {P:Cst} {p:Nat} {w:World} (h:PS P p false w) (hn:(rest P p).length<=n):
  Calls Tryz.prog 119 #[.pointer (some ⟨P.pb,0,none⟩)] w (ydi P w (unary (expr n) (rest P p))):=by
 have hb0:Below w.heap.size w (w.alloc (.cells #[.int .i64 0,.string ⟨#[]⟩,.int .i64 0,.slice none 0 0,.slice none 0 0] 25)):=(zB _ _).alloc (zL _) _;have h1:=h.below hb0;have HT:=zH ((za2.refl P w).low hb0);have HZ:=zH (zcd w 25);have HLO:=zH h.lo;have hl:=h.fit.len;have hpbl:=h.size;have KP:=zH (zup hx h1 hn);have KI:=fun (w1:World) (q:Nat) (h1:PS P q false w1)=>zH (ze4 h1 1 ⟨#[]⟩)
 have KN:=fun (w1:World) (q:Nat) (h1:PS P q false w1) (hb:isB 1 ⟨#[]⟩ (rest P q)=true)=>zH (zck h1 hb)
 have HF:=zH h.fit;generalize hG:unary (expr n) (rest P p)=G;have HG:Hid (G=unary (expr n) (rest P p)):=zH hG.symm;clear h h1 hb0 hn hx hG;generalize hNN:P.toks.length=N at *;have HNN:=zH hNN;clear hNN;generalize hpb:P.pb=pb at *;have HPB:=zH hpb;clear hpb;go_enter Tryz.func119,Tryz.ntmps119;go_wp2_with fail
 refine KP.out.mono ?_;rintro e w1 ⟨v1,t1,q1,b1,rfl,hr1,h1,ht1,hg1⟩;obtain ⟨xn,xk,rfl,hnode⟩:=hr1;obtain ⟨xa,xl,xc,ya,yl,yc,rfl,rfl⟩:=zcw hnode;have hba:∀ o,Below w1.heap.size w1 (w1.alloc o):=fun o=>(zB _ _).alloc (zL _) o
 have H1:=zH (h1.below (hba (.cells #[.int .i64 t1.kind,.string t1.text,.int .i64 t1.num,.slice xa xl xc,.slice ya yl yc] 25)));have HT1:=zH ((HT.out.trans ht1).below (hba (.cells #[.int .i64 t1.kind,.string t1.text,.int .i64 t1.num,.slice xa xl xc,.slice ya yl yc] 25)));have HZ1:=zH ((HZ.out.turn ht1 (by rw[HPB.out];omega)).step (hba (.cells #[.int .i64 t1.kind,.string t1.text,.int .i64 t1.num,.slice xa xl xc,.slice ya yl yc] 25)))
 have HF1:=zH (zcq w1 (.int .i64 t1.kind) (.string t1.text) (.int .i64 t1.num) (.slice xa xl xc) (.slice ya yl yc) 25);have HN1:=zH (zxc (B:=w1.heap.size) (lo:=w.heap.size+1) (zaw.keep HZ.out.size (fun _ _ _ _ hc=>hc) _ _ _ hnode) (zL _) (za1 (hba (.cells #[.int .i64 t1.kind,.string t1.text,.int .i64 t1.num,.slice xa xl xc,.slice ya yl yc] 25))))
 have HG1:Hid ((b1=false->G=some (zdn t1 false (rest P q1)))/\(b1=true->G=none)):=by
  refine zH ⟨fun e=>?_,fun e=>?_⟩
  ·rw[HG.out,unary,hg1,e];rfl
  ·rw[HG.out,unary,hg1,e];rfl
 have hB1:w.heap.size<w1.heap.size:=Nat.lt_of_lt_of_le HZ.out.size ht1.size;clear h1 ht1 hnode hg1 hba HG;go_wp2_with fail
 go_loopw [5] (fun v wr=>∃ (t:E) (s:Bool) (q:Nat) (b:Bool) (xa:Option Addr) (xl xc:Nat) (ya:Option Addr) (yl yc:Nat),v=.bool s/\PS P q b wr/\za2 P w wr/\Zero w.heap.size wr/\zjd w1.heap.size (.int .i64 t.kind) (.string t.text) (.int .i64 t.num) (.slice xa xl xc) (.slice ya yl yc) wr/\Off w1.heap.size (w.heap.size+1) wr t (.slice xa xl xc) (.slice ya yl yc)/\(b=false->G=some (zdn t s (rest P q)))/\(b=true->G=none)) (fun _ wr=>N-plc pb wr)
 case atStart=>exact ⟨t1,false,q1,b1,xa,xl,xc,ya,yl,yc,rfl,H1.out,HT1.out,HZ1.out,HF1.out,HN1.out,HG1.out.1,HG1.out.2⟩
 case round=>
  clear HG1 HN1 HF1 HZ1 H1 HT1;obtain ⟨t,s,q,b,xa,xl,xc,ya,yl,yc,rfl,hps,htr,hz,hf,hoff,hgood,hbad⟩:=hrel;have HPS:=zH hps;have HTR:=zH htr;have HZ:=zH hz;have HFV:=zH hf;have HOFF:=zH hoff;have HGD:=zH (And.intro hgood hbad);have c2:=hps.c2;rw[HPB.out] at c2;obtain ⟨hsz5,f0,f1,f2,f3,f4,ffz⟩:=hf;clear hps htr hz hoff hgood hbad;cases b with
  | true=>
   have HG2:Hid (G=Got true (t,s,rest P q)):=zH (HGD.out.2 rfl);obtain ⟨hszz,y0,y1,y2,y3,y4,yfz⟩:=HZ.out;go_wp2_with fail
   have hb9:=zai (zB w.heap.size wr) (B:=w.heap.size) (zL _) (.int .i64 t.kind) (.string t.text) (.int .i64 t.num) (.slice xa xl xc) (.slice ya yl yc);refine bodyPost_ret (v:=.tuple #[.agg #[.int .i64 t.kind,.string t.text,.int .i64 t.num,.slice xa xl xc,.slice ya yl yc],.bool s]) (by simp[results,Tryz.results119,go_sem, *]) rfl ?_;exact ⟨_,t,s,q,true,rfl,⟨_,_,rfl,zaw.keep (lo:=w.heap.size) (hi:=w.heap.size+1) (Nat.le_succ _) (zcl wr (Nat.lt_succ_self _) _ _ _ _ _) _ _ _ HOFF.out.on⟩,HPS.out.low hb9 HLO.out,HTR.out.low hb9,HG2.out⟩
  | false=>
   have K:=KI wr q HPS.out;cases hb:isB 1 ⟨#[]⟩ (rest P q) with
   | false=>
    have HG2:Hid (G=Got false (t,s,rest P q)):=zH (by rw[HGD.out.1 rfl,ycf (by rw[<-zbw];exact hb)];rfl)
    rw[hb] at K;clear hb;go_wp2_with fail
    refine K.out.mono ?_;rintro e w2 ⟨rfl,hd⟩;have HPS2:=zH (HPS.out.drawn hd);have HTR2:=zH (HTR.out.drawn hd);have HOF2:=zH (HOFF.out.kept (za1 hd.below));obtain ⟨hsz6,f0,f1,f2,f3,f4,ffz⟩:=HFV.out.step hd.below;obtain ⟨hszz,y0,y1,y2,y3,y4,yfz⟩:=HZ.out.step hd.below;clear hd;go_wp2_with fail
    have hb9:=zai (zB w.heap.size w2) (B:=w.heap.size) (zL _) (.int .i64 t.kind) (.string t.text) (.int .i64 t.num) (.slice xa xl xc) (.slice ya yl yc);refine bodyPost_ret (v:=.tuple #[.agg #[.int .i64 t.kind,.string t.text,.int .i64 t.num,.slice xa xl xc,.slice ya yl yc],.bool s]) (by simp[results,Tryz.results119,go_sem, *]) rfl ?_;exact ⟨_,t,s,q,false,rfl,⟨_,_,rfl,zaw.keep (lo:=w.heap.size) (hi:=w.heap.size+1) (Nat.le_succ _) (zcl w2 (Nat.lt_succ_self _) _ _ _ _ _) _ _ _ HOF2.out.on⟩,HPS2.out.low hb9 HLO.out,HTR2.out.low hb9,HG2.out⟩
   | true=>
    have HB:=zH hb;have HGT:=zH (HGD.out.1 rfl);rw[hb] at K;clear hb;go_wp2_with fail
    refine K.out.mono ?_;rintro e w2 ⟨rfl,hd⟩;have HD:=zH hd;have HPS2:=zH (HPS.out.drawn hd);obtain ⟨hsz6,f0,f1,f2,f3,f4,ffz⟩:=HFV.out.step hd.below;clear hd;have KN2:=fun k=>zH (zck (HPS2.out.draws k) HB.out)
    rw[HPB.out] at KN2;have HX4:Hid ((txt (rest P q)).size<=maxLen):=zH (Nat.le_trans (zcn HF.out) (by unfold maxLen;omega));generalize hxx:txt (rest P q)=x at *;have HXX:=zH hxx;clear hxx;clear K;go_wp2_with fail
    go_region_with (first
     | (
      go_at_call 50
      refine (KN2 _).out.mono ?_;rintro e w3 ⟨rfl,h3,ht3⟩;have H3:=zH h3;have hdd:∀ k,za2 P w2 (w2.drewN k):=fun k=>(za2.refl P w2).drawn ⟨k,rfl⟩
      have HT3:=zH (((HTR.out.drawn HD.out).trans (hdd _)).trans ht3);have HZ3:=zH (((HZ.out.step HD.out.below).turn (hdd _) (by rw[HPB.out];omega)).turn ht3 (by rw[HPB.out];omega));have HFW:=(HFV.out.step HD.out.below).turn ((hdd _).trans ht3) (by rw[HPB.out];omega);have HF3:=zH HFW;obtain ⟨hsz7,f0,f1,f2,f3,f4,ffz⟩:=HFW;have HOF3:=zH ((HOFF.out.kept (za1 HD.out.below)).kept ((((hdd _).trans ht3).ziz (w:=w) (by rw[HPB.out];exact hpbl)).mono (Nat.le_succ _)))
      have KS:=zH (zso (L:=[]) (s:=x) HOF3.out.on (zhb.nil _ _) (by simp));clear h3 ht3 hdd)
     | (
      go_at_call 66
      refine KS.out.mono ?_;rintro e w4 ⟨vk',rfl,ho4,hb4⟩;obtain ⟨ka,kc,rfl⟩:=Kit.za5 ho4;have HO4:=zH ho4;have HB4:=zH hb4;obtain ⟨hsz8,f0,f1,f2,f3,f4,ffz⟩:=HF3.out.step hb4;clear ho4 hb4))
    all_goals
     have HPS4:=zH (H3.out.below HB4.out);have HT4:=zH (HT3.out.below HB4.out);have HZ4:=zH (HZ3.out.step HB4.out);have HF4:=zH (HF3.out.step HB4.out);have HOF4:=zH (zsi (L:=[]) HOF3.out (fun _ h=>nomatch h) HX4.out HB4.out HO4.out (by have:=HZ3.out.size;omega) (by have:=HF3.out.size;omega))
     clear f0 f1 f2 f3 f4 ffz;go_wp2_with fail
     go_roundw
     case rel=>
      have hb9:=zai (zB w.heap.size w4) (B:=w1.heap.size) (Nat.le_of_lt hB1) (.int .i64 6) (.string x) (.int .i64 0) (.slice none 0 0) (.slice ka 1 kc);have hb8:=zai (zB (w.heap.size+1) w4) (B:=w1.heap.size) hB1 (.int .i64 6) (.string x) (.int .i64 0) (.slice none 0 0) (.slice ka 1 kc);refine ⟨zec t x [],true,q+1,false,none,0,0,ka,1,kc,rfl,HPS4.out.low hb9 HLO.out,HT4.out.low hb9,HZ4.out.low hb8 (Nat.lt_succ_self _),zgr HF4.out,HOF4.out.keep (zr2 w4 _ _ _ _ _),fun _=>?_,(fun e=>nomatch e)⟩
      rw[HGT.out,yfb (by rw[<-zbw];exact HB.out),HXX.out,zab]
     case measure=>
      have hb9:=zai (zB w.heap.size w4) (B:=w1.heap.size) (Nat.le_of_lt hB1) (.int .i64 6) (.string x) (.int .i64 0) (.slice none 0 0) (.slice ka 1 kc);have h1:=(HPS4.out.low hb9 HLO.out).plc;have h2:=HPS.out.plc;rw[HPB.out] at h1 h2;have h3:=zkc HB.out;rw[HNN.out] at h3;show N-plc pb (zgq w4 w1.heap.size _ _ _ _ _)<N-plc pb wr
      rw[h1,h2];omega
end Parser
end Go.Proofs.YtlmhgeanknhcfaaGreatDoor
