/-
  ParseBin ParseKey ParseMsg ParseExpr ParseExprW
-/
import Derived.Test.YtlmhgeanknhcfaaGreatDoorB6
import Derived.Lib.QuietBelow
import Derived.Deep.DeepCutAuto
set_option maxHeartbeats 8000000
set_option maxRecDepth 10000
namespace Go.Proofs.YtlmhgeanknhcfaaGreatDoor
namespace Parser
open Go.RowKit
open Strs Tree Gram
theorem zrf {ex:X} {e:E} {s:Bool} {r:R} (h:hd 6 r=false):zc3 ex e s r=some (e,s,r):=by rw[zc3,if_neg (by rw[h];simp)]
theorem zx5 {ex:X} {e:E} {s:Bool} {r:R} (h:hd 6 r=true) (h2:unary ex r.tail=none):zc3 ex e s r=none:=by rw[zc3,if_pos h,h2]
theorem yaa {ex:X} (hx:zcz ex) {e a:E} {s s':Bool} {r r1:R} (h:hd 6 r=true) (h2:unary ex r.tail=some (a,s',r1)):zc3 ex e s r=zc3 ex (zec e (txt r) [a]) true r1:=by have hlt:r1.length<r.length:=Nat.lt_trans (zhn hx h2) (zk3 h);rw[zc3,if_pos h,h2];simp only;rw[dif_pos hlt]
theorem zor {n:Nat} (hx:XC n) {P:Cst} {p:Nat} {w:World} (h:PS P p false w) (hn:(rest P p).length<=n):
  Calls Tryz.prog 64 #[.pointer (some ⟨P.pb,0,none⟩)] w (ydi P w (binary (expr n) (rest P p))):=by
 have hb0:Below w.heap.size w (w.alloc (.cells #[.int .i64 0,.string ⟨#[]⟩,.int .i64 0,.slice none 0 0,.slice none 0 0] 25)):=(zB _ _).alloc (zL _) _;have h1:=h.below hb0;have HT:=zH ((za2.refl P w).low hb0);have HZ:=zH (zcd w 25);have HLO:=zH h.lo;have hl:=h.fit.len;have hpbl:=h.size;have KP:=zH (znb hx h1 hn);have KI:=fun (w1:World) (q:Nat) (h1:PS P q false w1)=>zH (ze4 h1 6 ⟨#[]⟩)
 have KN:=fun (w1:World) (q:Nat) (h1:PS P q false w1) (hb:isB 6 ⟨#[]⟩ (rest P q)=true)=>zH (zck h1 hb)
 have HF:=zH h.fit;have KU:=zH fun (w1:World) (q:Nat) (h1:PS P q false w1) (hl:(rest P q).length<=n)=>znb hx h1 hl
 have HLEN:=zH hn;generalize hG:binary (expr n) (rest P p)=G;have HG:Hid (G=binary (expr n) (rest P p)):=zH hG.symm;clear h h1 hb0 hn hx hG;generalize hNN:P.toks.length=N at *;have HNN:=zH hNN;clear hNN;generalize hpb:P.pb=pb at *;have HPB:=zH hpb;clear hpb;go_enter Tryz.func64,Tryz.ntmps64;go_wp2_with fail
 refine KP.out.mono ?_;rintro e w1 ⟨v1,t1,s1,q1,b1,rfl,hr1,h1,ht1,hg1⟩;obtain ⟨xn,xk,rfl,hnode⟩:=hr1;obtain ⟨xa,xl,xc,ya,yl,yc,rfl,rfl⟩:=zcw hnode;have hba:∀ o,Below w1.heap.size w1 (w1.alloc o):=fun o=>(zB _ _).alloc (zL _) o
 have H1:=zH (h1.below (hba (.cells #[.int .i64 t1.kind,.string t1.text,.int .i64 t1.num,.slice xa xl xc,.slice ya yl yc] 25)));have HT1:=zH ((HT.out.trans ht1).below (hba (.cells #[.int .i64 t1.kind,.string t1.text,.int .i64 t1.num,.slice xa xl xc,.slice ya yl yc] 25)));have HZ1:=zH ((HZ.out.turn ht1 (by rw[HPB.out];omega)).step (hba (.cells #[.int .i64 t1.kind,.string t1.text,.int .i64 t1.num,.slice xa xl xc,.slice ya yl yc] 25)))
 have HF1:=zH (zcq w1 (.int .i64 t1.kind) (.string t1.text) (.int .i64 t1.num) (.slice xa xl xc) (.slice ya yl yc) 25);have HN1:=zH (zxc (B:=w1.heap.size) (lo:=w.heap.size+1) (zaw.keep HZ.out.size (fun _ _ _ _ hc=>hc) _ _ _ hnode) (zL _) (za1 (hba (.cells #[.int .i64 t1.kind,.string t1.text,.int .i64 t1.num,.slice xa xl xc,.slice ya yl yc] 25))))
 have HG1:Hid ((b1=false->p<=q1/\G=zc3 (expr n) t1 s1 (rest P q1))/\(b1=true->G=none)):=by
  refine zH ⟨fun e=>?_,fun e=>?_⟩
  ·refine ⟨?_,by rw[HG.out,binary,hg1,e];rfl⟩
   rw[e] at hg1;have:=zhn (zau n) hg1;rw[zaf,zaf] at this;omega
  ·rw[HG.out,binary,hg1,e];rfl
 have hB1:w.heap.size<w1.heap.size:=Nat.lt_of_lt_of_le HZ.out.size ht1.size;clear h1 ht1 hnode hg1 hba HG;go_wp2_with fail
 go_loopw [5] (fun v wr=>∃ (t:E) (s:Bool) (q:Nat) (b:Bool) (xa:Option Addr) (xl xc:Nat) (ya:Option Addr) (yl yc:Nat),v=.bool s/\PS P q b wr/\za2 P w wr/\Zero w.heap.size wr/\zjd w1.heap.size (.int .i64 t.kind) (.string t.text) (.int .i64 t.num) (.slice xa xl xc) (.slice ya yl yc) wr/\Off w1.heap.size (w.heap.size+1) wr t (.slice xa xl xc) (.slice ya yl yc)/\(b=false->p<=q/\G=zc3 (expr n) t s (rest P q))/\(b=true->G=none)) (fun _ wr=>left pb N wr)
 case atStart=>exact ⟨t1,s1,q1,b1,xa,xl,xc,ya,yl,yc,rfl,H1.out,HT1.out,HZ1.out,HF1.out,HN1.out,HG1.out.1,HG1.out.2⟩
 case round=>
  clear HG1 HN1 HF1 HZ1 H1 HT1;obtain ⟨t,s,q,b,xa,xl,xc,ya,yl,yc,rfl,hps,htr,hz,hf,hoff,hgood,hbad⟩:=hrel;have HPS:=zH hps;have HTR:=zH htr;have HZ:=zH hz;have HFV:=zH hf;have HOFF:=zH hoff;have HGD:=zH (And.intro hgood hbad);have c2:=hps.c2;rw[HPB.out] at c2;obtain ⟨hsz5,f0,f1,f2,f3,f4,ffz⟩:=hf;clear hps htr hz hoff hgood hbad;cases b with
  | true=>
   have HG2:Hid (G=Got true (t,s,rest P q)):=zH (HGD.out.2 rfl);obtain ⟨hszz,y0,y1,y2,y3,y4,yfz⟩:=HZ.out;go_wp2_with fail
   have hb9:=zai (zB w.heap.size wr) (B:=w.heap.size) (zL _) (.int .i64 t.kind) (.string t.text) (.int .i64 t.num) (.slice xa xl xc) (.slice ya yl yc);refine bodyPost_ret (v:=.tuple #[.agg #[.int .i64 t.kind,.string t.text,.int .i64 t.num,.slice xa xl xc,.slice ya yl yc],.bool s]) (by simp[results,Tryz.results64,go_sem, *]) rfl ?_;exact ⟨_,t,s,q,true,rfl,⟨_,_,rfl,zaw.keep (lo:=w.heap.size) (hi:=w.heap.size+1) (Nat.le_succ _) (zcl wr (Nat.lt_succ_self _) _ _ _ _ _) _ _ _ HOFF.out.on⟩,HPS.out.low hb9 HLO.out,HTR.out.low hb9,HG2.out⟩
  | false=>
   have K:=KI wr q HPS.out;cases hb:isB 6 ⟨#[]⟩ (rest P q) with
   | false=>
    have HG2:Hid (G=Got false (t,s,rest P q)):=zH (by rw[(HGD.out.1 rfl).2,zrf (by rw[<-zbw];exact hb)];rfl)
    rw[hb] at K;clear hb;go_wp2_with fail
    refine K.out.mono ?_;rintro e w2 ⟨rfl,hd⟩;have HPS2:=zH (HPS.out.drawn hd);have HTR2:=zH (HTR.out.drawn hd);have HOF2:=zH (HOFF.out.kept (za1 hd.below));obtain ⟨hsz6,f0,f1,f2,f3,f4,ffz⟩:=HFV.out.step hd.below;obtain ⟨hszz,y0,y1,y2,y3,y4,yfz⟩:=HZ.out.step hd.below;clear hd;go_wp2_with fail
    have hb9:=zai (zB w.heap.size w2) (B:=w.heap.size) (zL _) (.int .i64 t.kind) (.string t.text) (.int .i64 t.num) (.slice xa xl xc) (.slice ya yl yc);refine bodyPost_ret (v:=.tuple #[.agg #[.int .i64 t.kind,.string t.text,.int .i64 t.num,.slice xa xl xc,.slice ya yl yc],.bool s]) (by simp[results,Tryz.results64,go_sem, *]) rfl ?_;exact ⟨_,t,s,q,false,rfl,⟨_,_,rfl,zaw.keep (lo:=w.heap.size) (hi:=w.heap.size+1) (Nat.le_succ _) (zcl w2 (Nat.lt_succ_self _) _ _ _ _ _) _ _ _ HOF2.out.on⟩,HPS2.out.low hb9 HLO.out,HTR2.out.low hb9,HG2.out⟩
   | true=>
    have HB:=zH hb;have HGT:=zH (HGD.out.1 rfl);rw[hb] at K;clear hb;go_wp2_with fail
    refine K.out.mono ?_;rintro e w2 ⟨rfl,hd⟩;have HD:=zH hd;have HPS2:=zH (HPS.out.drawn hd);obtain ⟨hsz6,f0,f1,f2,f3,f4,ffz⟩:=HFV.out.step hd.below;clear hd
    have HQ1:Hid ((rest P (q+1)).length<=n):=by
     have h1:=HLEN.out;have h2:=HGT.out.1;show _<=_
     rw[zaf] at h1 ⊢;omega
    have hqN:=zkc HB.out;rw[HNN.out] at hqN;have hlf:Hid (left pb N wr=1+(N-q)):=zH (by rw[<-HPB.out];exact HPS.out.ze5 N);have KN2:=zH (zck HPS2.out HB.out);rw[HPB.out] at KN2;have HX4:Hid ((txt (rest P q)).size<=maxLen):=zH (Nat.le_trans (zcn HF.out) (by unfold maxLen;omega));have HTR2:=zH (HTR.out.drawn HD.out);have HZ2:=zH (HZ.out.step HD.out.below);have HF2:=zH (HFV.out.step HD.out.below)
    have HOF2:=zH (HOFF.out.kept (za1 HD.out.below));generalize hxx:txt (rest P q)=x at *;have HXX:=zH hxx;clear hxx;clear K f0 f1 f2 f3 f4 ffz;go_wp2_with fail
    refine KN2.out.mono ?_;rintro e w3 ⟨rfl,h3,ht3⟩;have HPS3:=zH h3;have HT3:=zH (HTR2.out.trans ht3);have HZ3:=zH (HZ2.out.turn ht3 (by rw[HPB.out];omega));have HF3:=zH (HF2.out.turn ht3 (by rw[HPB.out];omega));have HOF3:=zH (HOF2.out.kept ((ht3.ziz (w:=w) (by rw[HPB.out];exact hpbl)).mono (Nat.le_succ _)));clear h3 ht3 KN2;go_wp2_with fail
    refine (KU.out _ _ HPS3.out HQ1.out).mono ?_;rintro e w5 ⟨v5,t5,s5,q5,b5,rfl,hr5,h5,ht5,hg5⟩;obtain ⟨xn5,xk5,rfl,hnode5⟩:=hr5;obtain ⟨za,zl,zc,va,vl,vc,rfl,rfl⟩:=zcw hnode5;have hba:∀ o,Below w5.heap.size w5 (w5.alloc o):=fun o=>(zB _ _).alloc (zL _) o
    have h35:=ht5.size;have HOA5:=zH (zs9 (B:=w1.heap.size) (lo:=w.heap.size+1) hnode5 (by have:=HZ3.out.size;omega) HF3.out.size);have HPS5:=zH (h5.below (hba (.cells #[.int .i64 t5.kind,.string t5.text,.int .i64 t5.num,.slice za zl zc,.slice va vl vc] 25)));have HT5:=zH ((HT3.out.trans ht5).below (hba (.cells #[.int .i64 t5.kind,.string t5.text,.int .i64 t5.num,.slice za zl zc,.slice va vl vc] 25)))
    have HZ5:=zH ((HZ3.out.turn ht5 (by rw[HPB.out];omega)).step (hba (.cells #[.int .i64 t5.kind,.string t5.text,.int .i64 t5.num,.slice za zl zc,.slice va vl vc] 25)));have HF5:=zH ((HF3.out.turn ht5 (by rw[HPB.out];omega)).step (hba (.cells #[.int .i64 t5.kind,.string t5.text,.int .i64 t5.num,.slice za zl zc,.slice va vl vc] 25)));have HFA5:=zH (zcq w5 (.int .i64 t5.kind) (.string t5.text) (.int .i64 t5.num) (.slice za zl zc) (.slice va vl vc) 25)
    have HOF5:=zH ((HOF3.out.kept ((ht5.ziz (w:=w) (by rw[HPB.out];exact hpbl)).mono (Nat.le_succ _))).kept (za1 (hba (.cells #[.int .i64 t5.kind,.string t5.text,.int .i64 t5.num,.slice za zl zc,.slice va vl vc] 25))));have HOB5:=zH (HOA5.out.kept (za1 (hba (.cells #[.int .i64 t5.kind,.string t5.text,.int .i64 t5.num,.slice za zl zc,.slice va vl vc] 25))));have HG5:=zH hg5
    have hw5:(w5.alloc (.cells #[.int .i64 t5.kind,.string t5.text,.int .i64 t5.num,.slice za zl zc,.slice va vl vc] 25)).heap.size=w5.heap.size+1:=by simp
    clear h5 ht5 hg5 hnode5 hba;obtain ⟨hs1,f0,f1,f2,f3,f4,ffz⟩:=HF5.out;obtain ⟨hs2,g0,g1,g2,g3,g4,gfz⟩:=HFA5.out;have KS:=zH (zso (lo:=w.heap.size+1) (L:=[(t5,.slice za zl zc,.slice va vl vc)]) (s:=x) (HOF5.out.on.below ((zB _ _).alloc (zL _) (.cells #[.int .i64 t5.kind,.string t5.text,.int .i64 t5.num,.slice za zl zc,.slice va vl vc] 25))) (zss HOB5.out.on (by have:=HZ5.out.size;omega)) (by simp))
    rw[hw5] at KS;have hba6:∀ W:World,Below W.heap.size W (W.alloc (.cells #[.int .i64 t5.kind,.string t5.text,.int .i64 t5.num,.slice za zl zc,.slice va vl vc] 25)):=fun W=>(zB _ _).alloc (zL _) _
    have HPS6:=zH (HPS5.out.below (hba6 _));have HT6:=zH (HT5.out.below (hba6 _));have HZ6:=zH (HZ5.out.step (hba6 _));have HF6:=zH (HF5.out.step (hba6 _));have HOF6:=zH (HOF5.out.kept (za1 (hba6 _)));have HOB6:=zH (HOB5.out.kept (za1 (hba6 _)));clear hba6;go_wp2_with fail
    refine KS.out.mono ?_;rintro e w7 ⟨vk',rfl,ho7,hb7⟩;obtain ⟨ka,kc,rfl⟩:=Kit.za5 ho7;have HPS7:=zH (HPS6.out.below hb7);have HT7:=zH (HT6.out.below hb7);have HZ7:=zH (HZ6.out.step hb7);have HF7:=zH (HF6.out.step hb7);have HOF7:=zH (zsi (L:=[(t5,.slice za zl zc,.slice va vl vc)]) HOF6.out (fun y hy=>by rw[List.mem_singleton.1 hy];exact HOB6.out) HX4.out hb7 ho7 (by have:=HZ6.out.size;omega) (by have:=HF6.out.size;omega))
    clear ho7 hb7 f0 f1 f2 f3 f4 ffz;obtain ⟨hs3,f0,f1,f2,f3,f4,ffz⟩:=HF7.out;go_wp2_with fail
    go_roundw
    case rel=>
     have hb9:=zai (zB w.heap.size w7) (B:=w1.heap.size) (Nat.le_of_lt hB1) (.int .i64 6) (.string x) (.int .i64 0) (.slice none 0 0) (.slice ka 2 kc);have hb8:=zai (zB (w.heap.size+1) w7) (B:=w1.heap.size) hB1 (.int .i64 6) (.string x) (.int .i64 0) (.slice none 0 0) (.slice ka 2 kc);refine ⟨zec t x [t5],true,q5,b5,none,0,0,ka,2,kc,rfl,HPS7.out.low hb9 HLO.out,HT7.out.low hb9,HZ7.out.low hb8 (Nat.lt_succ_self _),zgr HF7.out,HOF7.out.keep (zr2 w7 _ _ _ _ _),fun e=>?_,fun e=>?_⟩
     ·have hg:=HG5.out
      rw[e] at hg;refine ⟨?_,?_⟩
      ·have h1:=zhn (zau n) hg
       have h2:=HGT.out.1;rw[zaf,zaf] at h1;omega
      ·rw[HGT.out.2,yaa (zau n) (by rw[<-zbw];exact HB.out) (by rw[zab];exact hg),HXX.out]
     ·have hg:=HG5.out
      rw[e] at hg;rw[HGT.out.2,zx5 (by rw[<-zbw];exact HB.out) (by rw[zab];exact hg)]
    case measure=>
     have hb9:=zai (zB w.heap.size w7) (B:=w1.heap.size) (Nat.le_of_lt hB1) (.int .i64 6) (.string x) (.int .i64 0) (.slice none 0 0) (.slice ka 2 kc);have h1:=HPS7.out.low hb9 HLO.out;show left pb N (zgq w7 w1.heap.size _ _ _ _ _)<left pb N wr
     rw[hlf.out];cases b5 with
     | true=>have:=h1.zhh N;rw[HPB.out] at this;omega
     | false=>
      have h2:=h1.ze5 N;rw[HPB.out] at h2;have h3:=zhn (zau n) (show _=some _ from HG5.out)
      rw[zaf,zaf,HNN.out] at h3;omega
end Parser
namespace Parser
open Go.RowKit
open Strs Tree Gram
theorem zlm {ex:X} {s:ByteArray} {xs:List E} {r:R} (h:hd 2 r=false):zbe ex s xs r=some (s,xs,r):=by rw[zbe,if_neg (by rw[h];simp)]
theorem zyb {ex:X} {s:ByteArray} {xs:List E} {r:R} (h:hd 2 r=true) (h2:binary ex r.tail=none):zbe ex s xs r=none:=by rw[zbe,if_pos h,h2]
theorem yaf {ex:X} (hx:zcz ex) {s:ByteArray} {xs:List E} {a:E} {s':Bool} {r r1:R} (h:hd 2 r=true) (h2:binary ex r.tail=some (a,s',r1)):zbe ex s xs r=zbe ex (s++txt r) (xs++[a]) r1:=by have hlt:r1.length<r.length:=Nat.lt_trans (zi4 hx h2) (zk3 h);rw[zbe,if_pos h,h2];simp only;rw[dif_pos hlt]
def ybi (P:Cst) (w:World) (bad:Bool) (g:Option (ByteArray×List E×R)) (e:Ending) (w':World):Prop:=
 ∃ sel v L q b,e=.returned (.tuple #[.string sel,v])/\zhb w.heap.size w' L v/\L.length<=801/\sel.size<=4000*801/\PS P q b w'/\za2 P w w'/\(b=false->bad=false)/\(bad=true->sel=⟨#[]⟩/\L=[])/\(bad=false->g=Got b (sel,zbu L,rest P q))
theorem zy1 {n:Nat} (hx:XC n) {P:Cst} {p:Nat} {bad:Bool} {w:World} (h:PS P p bad w) (hn:bad=false->(rest P p).length<=n):
  Calls Tryz.prog 65 #[.pointer (some ⟨P.pb,0,none⟩)] w (ybi P w bad (zbe (expr n) none_ [] (rest P p))):=by
 obtain ⟨i0,hi,hz0,hz1,hz2⟩:=info_parts zp6;have KI:=fun (w1:World) (q:Nat) (h1:PS P q false w1)=>zH (ze4 h1 2 ⟨#[]⟩)
 have KN:=fun (w1:World) (q:Nat) (h1:PS P q false w1) (hb:isB 2 ⟨#[]⟩ (rest P q)=true)=>zH (zck h1 hb)
 have KU:=zH fun (w1:World) (q:Nat) (h1:PS P q false w1) (hl:(rest P q).length<=n)=>zor hx h1 hl
 have H1:=zH (h.below ((zB _ _).alloc (zL _) (.cells #[] 25)));have HT:=zH (za2.zmu P w (.cells #[] 25));have HO:=zH (Out.new w);have HLO:=zH h.lo;have hpbl:=h.size;have h8:=h.fit.len;have hpl:=h.le;have HLEN:=zH hn;have HF:=zH h.fit;clear h hn hx;generalize hG:zbe (expr n) none_ [] (rest P p)=G;have HG:Hid (G=zbe (expr n) none_ [] (rest P p)):=zH hG.symm
 clear hG;generalize hpb:P.pb=pb at *;generalize hNN:P.toks.length=N at *;have HPB:=zH hpb;clear hpb;have HNN:=zH hNN;clear hNN;go_enter Tryz.func65,Tryz.ntmps65;go_wp2_with fail
 go_loopw [4,5] (fun sv v wr=>∃ (sel:ByteArray) (L:List Item) (q:Nat) (b:Bool),sv=.string sel/\L.length<=N/\sel.size<=4000*L.length/\PS P q b wr/\za2 P w wr/\Out w.heap.size wr L v/\(b=false->bad=false/\p<=q/\L.length<=q/\G=zbe (expr n) sel (zbu L) (rest P q))/\(b=true->(bad=true/\sel=⟨#[]⟩/\L=[])\/(bad=false/\G=none))) (fun _ _ wr=>left pb N wr)
 case atStart=>exact ⟨⟨#[]⟩,[],p,bad,rfl,Nat.zero_le _,Nat.zero_le _,H1.out,HT.out,HO.out,fun e=>⟨e,zL _,Nat.zero_le _,HG.out⟩,fun e=>.inl ⟨e,rfl,rfl⟩⟩
 case round=>
  obtain ⟨sel,L,q,b,rfl,hLN,hsel,hps,htr,hout,hgood,hbad⟩:=hrel;have HPS:=zH hps;have HTR:=zH htr;have HOUT:=zH hout;have c2:=hps.c2;rw[HPB.out] at c2;obtain ⟨ra,rc,rfl⟩:=hout.form;have hgw:w.heap.size<=wr.heap.size:=htr.size;clear hps htr hout;cases b with
  | true=>
   have HB:=zH (hbad rfl);clear hbad hgood;go_wp2_with fail
   go_ret2
   refine ⟨sel,_,L,q,true,rfl,HOUT.out.kids,by omega,by omega,HPS.out,HTR.out,(fun e=>nomatch e),fun e=>?_,fun e=>?_⟩
   ·rcases HB.out with h|h
    ·exact h.2
    ·rw[e] at h;cases h.1
   ·rcases HB.out with h|h
    ·rw[e] at h;cases h.1
    ·exact h.2
  | false=>
   obtain ⟨hbf,hpq,hLq,hgo⟩:=hgood rfl;have HGO:=zH hgo;clear hgo hbad hgood;have HBF:=zH hbf;clear hbf;have K:=KI wr q HPS.out;have hlf:Hid (left pb N wr=1+(N-q)):=zH (by rw[<-HPB.out];exact HPS.out.ze5 N);cases hb:isB 2 ⟨#[]⟩ (rest P q) with
   | false=>
    have HG2:Hid (G=Got false (sel,zbu L,rest P q)):=zH (by rw[HGO.out,zlm (by rw[<-zbw];exact hb)];rfl)
    rw[hb] at K;clear hb;go_wp2_with fail
    refine K.out.mono ?_;rintro e w2 ⟨rfl,hd⟩;have HPS2:=zH (HPS.out.drawn hd);have HTR2:=zH (HTR.out.drawn hd);have HO2:=zH (HOUT.out.below hd.below);clear hd;go_wp2_with fail
    go_ret2
    exact ⟨sel,_,L,q,false,rfl,HO2.out.kids,by omega,by omega,HPS2.out,HTR2.out,fun _=>HBF.out,fun e=>by (rw[HBF.out] at e;cases e),fun _=>HG2.out⟩
   | true=>
    have HB:=zH hb;have hqN:=zkc hb;rw[HNN.out] at hqN
    have HQ1:Hid ((rest P (q+1)).length<=n):=by
     have h1:=HLEN.out HBF.out;show _<=_
     rw[zaf] at h1 ⊢;omega
    rw[hb] at K;clear hb;go_wp2_with fail
    refine K.out.mono ?_;rintro e w2 ⟨rfl,hd⟩;have HPS2:=zH (HPS.out.drawn hd);have HTR2:=zH (HTR.out.drawn hd);have HO2:=zH (HOUT.out.below hd.below);have KN2:=zH (zck HPS2.out HB.out);rw[HPB.out] at KN2;have hx4:=zcn (p:=q) HF.out;generalize hxx:txt (rest P q)=x at *;have HXX:=zH hxx;clear hxx;clear hd K;go_wp2_with fail
    refine KN2.out.mono ?_;rintro e w3 ⟨rfl,h3,ht3⟩;have HPS3:=zH h3;have HT3:=zH (HTR2.out.trans ht3);have HO3:=zH (HO2.out.turn ht3 (by rw[HPB.out];exact hpbl));have hg3:w.heap.size<=w3.heap.size:=HT3.out.size;clear h3 ht3 KN2;go_wp2_with fail
    refine (KU.out _ _ HPS3.out HQ1.out).mono ?_;rintro e w5 ⟨v5,t5,s5,q5,b5,rfl,hr5,h5,ht5,hg5⟩;obtain ⟨xn5,xk5,rfl,hnode5⟩:=hr5;obtain ⟨za,zl,zc,va,vl,vc,rfl,rfl⟩:=zcw hnode5;have hba:∀ o,Below w5.heap.size w5 (w5.alloc o):=fun o=>(zB _ _).alloc (zL _) o
    have HNODE:=zH (hnode5.below (hba (.cells #[.int .i64 t5.kind,.string t5.text,.int .i64 t5.num,.slice za zl zc,.slice va vl vc] 25)));have HPS5:=zH (h5.below (hba (.cells #[.int .i64 t5.kind,.string t5.text,.int .i64 t5.num,.slice za zl zc,.slice va vl vc] 25)));have HT5:=zH ((HT3.out.trans ht5).below (hba (.cells #[.int .i64 t5.kind,.string t5.text,.int .i64 t5.num,.slice za zl zc,.slice va vl vc] 25)))
    have HO5:=zH ((HO3.out.turn ht5 (by rw[HPB.out];exact hpbl)).below (hba (.cells #[.int .i64 t5.kind,.string t5.text,.int .i64 t5.num,.slice za zl zc,.slice va vl vc] 25)));have HBL5:=zH (zx8 HO3.out);have hg5':w.heap.size<=w5.heap.size:=Nat.le_trans hg3 ht5.size;have hw5:(w5.alloc (.cells #[.int .i64 t5.kind,.string t5.text,.int .i64 t5.num,.slice za zl zc,.slice va vl vc] 25)).heap.size=w5.heap.size+1:=by simp
    have HG5:=zH hg5
    have HQ5:Hid ((b5=false->q+1<q5/\G=zbe (expr n) (sel++x) (zbu (L++[(t5,.slice za zl zc,.slice va vl vc)])) (rest P q5))/\(b5=true->G=none)):=by
     refine zH ⟨fun e=>?_,fun e=>?_⟩
     ·rw[e] at hg5
      refine ⟨?_,?_⟩
      ·have h1:=zi4 (zau n) hg5
       rw[zaf,zaf] at h1;omega
      ·rw[HGO.out,yaf (zau n) (by rw[<-zbw];exact HB.out) (by rw[zab];exact hg5),HXX.out,zf3];rfl
     ·rw[e] at hg5
      rw[HGO.out,zyb (by rw[<-zbw];exact HB.out) (by rw[zab];exact hg5)]
    have F5:=zcq w5 (.int .i64 t5.kind) (.string t5.text) (.int .i64 t5.num) (.slice za zl zc) (.slice va vl vc) 25;obtain ⟨hs2,g0,g1,g2,g3,g4,gfz⟩:=F5;clear h5 ht5 hg5 hnode5 hba;go_wp2_with (at_builtin;go_must (refine wpList_append_own_at _ rfl _ _ 23 rfl w.heap.size 25 i0 (.agg #[.int .i64 0,.string ByteArray.empty,.int .i64 0,.slice none 0 0,.slice none 0 0]) 5 80 Tryz.underlying23 hi hz0 hz1 hz2 rfl (by decide) _ L.length (ziy L) rfl (HO5.out.below ((zB _ _).alloc (zL _) _)).own ⟨w5.heap.size+1,0,none⟩ 1 1 (ziy [(t5,.slice za zl zc,.slice va vl vc)]) rfl rfl ?c1 ?c2 ?c3 ?c4 ?c5 ?_))
    case c1=>exact zo3 w5 _ (t5,.slice za zl zc,.slice va vl vc) _
    case c2=>exact zo6 (w:=w5.alloc (.cells #[.int .i64 t5.kind,.string t5.text,.int .i64 t5.num,.slice za zl zc,.slice va vl vc] 25)) (L:=[(t5,.slice za zl zc,.slice va vl vc)]) (fun y hy=>by rw[List.mem_singleton.1 hy];exact HNODE.out)
    case c3=>unfold maxLen;omega
    case c4=>omega
    case c5=>simp;omega
    intro v6 w6 hown hgr hnn hat;have HO6:Hid (Out w.heap.size w6 (L++[(t5,.slice za zl zc,.slice va vl vc)]) v6):=zH (HO5.out.app (l1:=w3.heap.size) HNODE.out hg3 HBL5.out hown hgr (by rw[hw5];exact hat) hnn);have hlow:=zdy (base:=w.heap.size) (by rw[hw5];omega) HO5.out.own hgr;have HPS6:=zH (HPS5.out.low hlow HLO.out);have HT6:=zH (HT5.out.low hlow);clear hown hgr hnn hat hlow g0 g1 g2 g3 g4 gfz
    go_wp2_with fail
    go_roundw
    case rel=>
     refine ⟨sel++x,L++[(t5,.slice za zl zc,.slice va vl vc)],q5,b5,rfl,by simp;omega,by simp[ByteArray.size_append];omega,HPS6.out,HT6.out,HO6.out,fun e=>?_,fun e=>.inr ⟨HBF.out,HQ5.out.2 e⟩⟩
     obtain ⟨h1,h2⟩:=HQ5.out.1 e;exact ⟨HBF.out,by omega,by simp;omega,h2⟩
    case measure=>
     rw[hlf.out];cases b5 with
     | true=>have:=HPS6.out.zhh N;rw[HPB.out] at this;omega
     | false=>have h2:=HPS6.out.ze5 N;rw[HPB.out] at h2;have h3:=(HQ5.out.1 rfl).1;omega
end Parser
namespace Parser
open Go.RowKit
open Strs Tree Gram
theorem z5q {ex:X} {r:R} (h:hd 1 r=true):message ex r=some (zis (txt r) [],r.tail):=by rw[message,if_pos h]
theorem z0p {ex:X} {r:R} (h:hd 1 r=false) (h6:hd 6 r=true) {b:Bool} {t:E} {s:Bool} {r1:R} (h2:unary ex r.tail=Got b (t,s,r1)):message ex r=Got b (zis (txt r) [t],r1):=by rw[message,if_neg (by rw[h];simp),if_pos h6,h2];cases b<;>rfl
theorem yap {ex:X} {r:R} (h:hd 1 r=false) (h6:hd 6 r=false) {b:Bool} {sel:ByteArray} {L:List E} {r1:R} (h2:zbe ex none_ [] r=Got b (sel,L,r1)):message ex r=if sel.size=0 then none else Got b (zis sel L,r1):=by
 rw[message,if_neg (by rw[h];simp),if_neg (by rw[h6];simp),h2];cases b with
 | true=>simp[Got]
 | false=>rfl
theorem zuo {n:Nat} (hx:XC n) {P:Cst} {p:Nat} {w:World} (h:PS P p false w) (hn:(rest P p).length<=n):
  Calls Tryz.prog 67 #[.pointer (some ⟨P.pb,0,none⟩)] w (ycl P w (message (expr n) (rest P p))):=by
 have hb0:Below w.heap.size w (w.alloc (.cells #[.int .i64 0,.string ⟨#[]⟩,.int .i64 0,.slice none 0 0,.slice none 0 0] 25)):=(zB _ _).alloc (zL _) _;have h1:=h.below hb0;have H1:=zH h1;have HT:=zH ((za2.refl P w).low hb0);have HZ:=zH (zcd w 25);have HLO:=zH h.lo;have hpbl:=h.size;have HLEN:=zH hn;have HF:=zH h.fit;have KI1:=zH (ze4 h1 1 ⟨#[]⟩)
 have KI6:=fun (w1:World) (h1:PS P p false w1)=>zH (ze4 h1 6 ⟨#[]⟩)
 have KN:=fun (w1:World) (k:Int) (h1:PS P p false w1) (hb:isB k ⟨#[]⟩ (rest P p)=true)=>zH (zck h1 hb)
 have KU:=zH fun (w1:World) (q:Nat) (h1:PS P q false w1) (hl:(rest P q).length<=n)=>znb hx h1 hl
 have KK:=zH fun (w1:World) (h1:PS P p false w1)=>zy1 hx h1 (fun _=>hn)
 generalize hG:message (expr n) (rest P p)=G;have HG:Hid (G=message (expr n) (rest P p)):=zH hG.symm;clear h h1 hb0 hn hx hG;generalize hpb:P.pb=pb at *;have HPB:=zH hpb;clear hpb;cases hb1:isB 1 ⟨#[]⟩ (rest P p) with
 | true=>
  have HB:=zH hb1;have HG2:Hid (G=Got false (zis (txt (rest P p)) [],rest P (p+1))):=zH (by rw[HG.out,z5q (by rw[<-zbw];exact hb1),zab];rfl)
  rw[hb1] at KI1;clear hb1;go_enter Tryz.func67,Tryz.ntmps67;go_wp2_with fail
  refine KI1.out.mono ?_;rintro e w2 ⟨rfl,hd⟩;have HPS2:=zH (H1.out.drawn hd);have HT2:=zH (HT.out.drawn hd);have HZ2:=zH (HZ.out.step hd.below);have KN2:=zH (zck HPS2.out HB.out);rw[HPB.out] at KN2;have hx4:=zcn (p:=p) HF.out;generalize txt (rest P p)=x at *;clear hd;go_wp2_with fail
  refine KN2.out.mono ?_;rintro e w3 ⟨rfl,h3,ht3⟩;have HPS3:=zH h3;have HT3:=zH (HT2.out.trans ht3);obtain ⟨hsz,z0,z1,z2,z3,z4,fz⟩:=HZ2.out.turn ht3 (by rw[HPB.out];omega);clear h3 ht3;go_wp2_with fail
  have hb9:=zai (zB w.heap.size w3) (B:=w.heap.size) (zL _) (.int .i64 6) (.string x) (.int .i64 0) (.slice none 0 0) (.slice none 0 0);refine bodyPost_ret (v:=.agg #[.int .i64 6,.string x,.int .i64 0,.slice none 0 0,.slice none 0 0]) (by simp[results,Tryz.results67,go_sem, *]) rfl ?_;exact ⟨_,zis x [],p+1,false,rfl,⟨_,_,rfl,zfi (by rfl) (by rfl) (by show x.size<=maxLen;unfold maxLen;omega)⟩,HPS3.out.low hb9 HLO.out,HT3.out.low hb9,HG2.out⟩
 | false=>
  have HN1:=zH hb1;rw[hb1] at KI1;clear hb1;cases hb6:isB 6 ⟨#[]⟩ (rest P p) with
  | true=>
   have HB:=zH hb6
   have HQ1:Hid ((rest P (p+1)).length<=n):=by
    have h1:=HLEN.out;show _<=_
    rw[zaf] at h1 ⊢;omega
   clear hb6;go_enter Tryz.func67,Tryz.ntmps67;go_wp2_with fail
   refine KI1.out.mono ?_;rintro e w2 ⟨rfl,hd⟩;have HPS2:=zH (H1.out.drawn hd);have HT2:=zH (HT.out.drawn hd);have HZ2:=zH (HZ.out.step hd.below);clear hd;have K6:=KI6 _ HPS2.out;rw[HB.out] at K6;go_wp2_with fail
   refine K6.out.mono ?_;rintro e w3 ⟨rfl,hd⟩;have HPS3:=zH (HPS2.out.drawn hd);have HT3:=zH (HT2.out.drawn hd);have HZ3:=zH (HZ2.out.step hd.below);clear hd;have KN2:=zH (zck HPS3.out HB.out);rw[HPB.out] at KN2;have hx4:=zcn (p:=p) HF.out;generalize hxx:txt (rest P p)=x at *;have HXX:=zH hxx;clear hxx;go_wp2_with fail
   refine KN2.out.mono ?_;rintro e w4 ⟨rfl,h4,ht4⟩;have HPS4:=zH h4;have HT4:=zH (HT3.out.trans ht4);have HZ4:=zH (HZ3.out.turn ht4 (by rw[HPB.out];omega));clear h4 ht4;go_wp2_with fail
   refine (KU.out _ _ HPS4.out HQ1.out).mono ?_;rintro e w5 ⟨v5,t5,s5,q5,b5,rfl,hr5,h5,ht5,hg5⟩;obtain ⟨xn5,xk5,rfl,hnode5⟩:=hr5;obtain ⟨za,zl,zc,va,vl,vc,rfl,rfl⟩:=zcw hnode5;have HG2:Hid (G=Got b5 (zis x [t5],rest P q5)):=zH (by rw[HG.out,z0p (by rw[<-zbw];exact HN1.out) (by rw[<-zbw];exact HB.out) (by rw[zab];exact hg5),HXX.out])
   have hba:∀ W:World,Below W.heap.size W (W.alloc (.cells #[.int .i64 t5.kind,.string t5.text,.int .i64 t5.num,.slice za zl zc,.slice va vl vc] 25)):=fun W=>(zB _ _).alloc (zL _) _
   have hb9:=zai (zB w.heap.size w5) (B:=w.heap.size) (zL _) (.int .i64 6) (.string x) (.int .i64 0) (.slice none 0 0) (.slice (some ⟨w5.heap.size+1,0,none⟩) 1 1);have hs9:(zgq w5 w.heap.size (.int .i64 6) (.string x) (.int .i64 0) (.slice none 0 0) (.slice (some ⟨w5.heap.size+1,0,none⟩) 1 1)).heap.size=w5.heap.size:=by simp[zgq,World.setCell]
   have hw5:((zgq w5 w.heap.size (.int .i64 6) (.string x) (.int .i64 0) (.slice none 0 0) (.slice (some ⟨w5.heap.size+1,0,none⟩) 1 1)).alloc (.cells #[.int .i64 t5.kind,.string t5.text,.int .i64 t5.num,.slice za zl zc,.slice va vl vc] 25)).heap.size=w5.heap.size+1:=by simp[hs9]
   have HK6:=zH (zss (lo:=w.heap.size) (zaw.keep (lo:=w.heap.size) (hi:=w.heap.size+1) (Nat.le_succ _) (za1 (hba (zgq w5 w.heap.size (.int .i64 6) (.string x) (.int .i64 0) (.slice none 0 0) (.slice (some ⟨w5.heap.size+1,0,none⟩) 1 1)))) _ _ _ (zaw.keep (lo:=w.heap.size+1) HZ4.out.size (fun _ _ _ _ hc=>hc) _ _ _ hnode5 |> zaw.keep (zL _) (zcl w5 (Nat.lt_succ_self _) (.int .i64 6) (.string x) (.int .i64 0) (.slice none 0 0) (.slice (some ⟨w5.heap.size+1,0,none⟩) 1 1)) _ _ _)) (by have:=HZ4.out.size;have:=ht5.size;rw[hw5];omega))
   rw[hw5] at HK6;have HPS6:=zH (((h5.low hb9 HLO.out).below (hba _)).below (hba _));have HT6:=zH ((((HT4.out.trans ht5).low hb9).below (hba _)).below (hba _));obtain ⟨hsz,z0,z1,z2,z3,z4,fz⟩:=HZ4.out.turn ht5 (by rw[HPB.out];omega);have hB5:w.heap.size<w5.heap.size:=Nat.lt_of_lt_of_le HZ4.out.size ht5.size;clear h5 ht5 hg5 hnode5 hba hb9 hs9 hw5;go_wp2_with fail
   refine bodyPost_ret (v:=.agg #[.int .i64 6,.string x,.int .i64 0,.slice none 0 0,.slice (some ⟨w5.heap.size+1,0,none⟩) 1 1]) (by simp[results,Tryz.results67,go_sem, *]) rfl ?_;exact ⟨_,zis x [t5],q5,b5,rfl,(znc (L:=[(t5,.slice za zl zc,.slice va vl vc)]) HK6.out (by unfold maxLen;omega)),HPS6.out,HT6.out,HG2.out⟩
  | false=>
   have HN6:=zH hb6;clear hb6;go_enter Tryz.func67,Tryz.ntmps67;go_wp2_with fail
   refine KI1.out.mono ?_;rintro e w2 ⟨rfl,hd⟩;have HPS2:=zH (H1.out.drawn hd);have HT2:=zH (HT.out.drawn hd);have HZ2:=zH (HZ.out.step hd.below);clear hd;have K6:=KI6 _ HPS2.out;rw[HN6.out] at K6;go_wp2_with fail
   refine K6.out.mono ?_;rintro e w3 ⟨rfl,hd⟩;have HPS3:=zH (HPS2.out.drawn hd);have HT3:=zH (HT2.out.drawn hd);have HZ3:=zH (HZ2.out.step hd.below);clear hd;go_wp2_with fail
   refine (KK.out _ HPS3.out).mono ?_;rintro e w4 ⟨sel,v4,L,q,b,rfl,hk4,hL,hsel,h4,ht4,-,-,hg4⟩;have HGK:Hid (G=if sel.size=0 then none else Got b (zis sel (zbu L),rest P q)):=zH (by rw[HG.out,yap (by rw[<-zbw];exact HN1.out) (by rw[<-zbw];exact HN6.out) (hg4 rfl)])
   obtain ⟨ka,kc,hv4,-⟩:=hk4.kids;have hlt:(zbu L).length=L.length:=by simp[zbu]
   rw[hlt] at hv4;subst hv4;have HK4:=zH (hk4.mono (show w.heap.size+1<=w3.heap.size from HZ3.out.size))
   have HPS4:=zH h4;have HT4:=zH (HT3.out.trans ht4);have c2:=h4.c2;have fzp:=h4.fz;rw[HPB.out] at c2 fzp;obtain ⟨hsz,z0,z1,z2,z3,z4,fz⟩:=HZ3.out.turn ht4 (by rw[HPB.out];omega);clear hk4 h4 ht4 hg4 hlt KI1 K6 KN KU KK KI6;by_cases hs:sel.size=0
   ·have HG2:Hid (G=Got true (zis sel (zbu L),rest P q)):=zH (by rw[HGK.out,if_pos hs];rfl)
    have e2:sel.toList.isEmpty=true:=by rw[ByteArray.toList_eq,List.isEmpty_iff];exact List.eq_nil_of_length_eq_zero (by rw[Array.length_toList];exact hs)
    have hsl:sel.size<=4000*801:=hsel;have HSZ:=zH hs;clear hs;have h9:=HPS4.out.no;have ht9:=HT4.out.set 2 (.bool true);rw[HPB.out] at h9 ht9;have H9:=zH h9;have HT9:=zH ht9;clear h9 ht9;go_wp2_with fail
    have hb9:=zai (zB w.heap.size (w4.setCell ⟨pb,2,none⟩ (.bool true))) (B:=w.heap.size) (zL _) (.int .i64 6) (.string sel) (.int .i64 0) (.slice none 0 0) (.slice ka L.length kc);refine bodyPost_ret (v:=.agg #[.int .i64 6,.string sel,.int .i64 0,.slice none 0 0,.slice ka L.length kc]) (by simp[results,Tryz.results67,go_sem, *]) rfl ?_;exact ⟨_,zis sel (zbu L),q,true,rfl,znc ((HK4.out.keep ((zci (lo:=w.heap.size+1) w4 ⟨pb,2,none⟩ (.bool true) (Nat.lt_succ_of_lt hpbl)).trans (zcl (w4.setCell ⟨pb,2,none⟩ (.bool true)) (Nat.lt_succ_self _) _ _ _ _ _))).mono (Nat.le_succ _)) (by unfold maxLen;omega),H9.out.low hb9 HLO.out,HT9.out.low hb9,HG2.out⟩
   ·have HG2:Hid (G=Got b (zis sel (zbu L),rest P q)):=zH (by rw[HGK.out,if_neg hs])
    have e2:=zhr hs;clear hs;go_wp2_with fail
    have hb9:=zai (zB w.heap.size w4) (B:=w.heap.size) (zL _) (.int .i64 6) (.string sel) (.int .i64 0) (.slice none 0 0) (.slice ka L.length kc);refine bodyPost_ret (v:=.agg #[.int .i64 6,.string sel,.int .i64 0,.slice none 0 0,.slice ka L.length kc]) (by simp[results,Tryz.results67,go_sem, *]) rfl ?_;exact ⟨_,zis sel (zbu L),q,b,rfl,znc ((HK4.out.keep ((zcl w4 (Nat.lt_succ_self _) _ _ _ _ _))).mono (Nat.le_succ _)) (by unfold maxLen;omega),HPS4.out.low hb9 HLO.out,HT4.out.low hb9,HG2.out⟩
end Parser
namespace Parser
open Go.RowKit
open Strs Tree Gram
def asg (r:R):Bool:=hd 1 r&&mk zuh r.tail
theorem z8z {ex:X} {r:R} (h:asg r=true) {b:Bool} {t:E} {r1:R} (h2:ex r.tail.tail=Got b (t,r1)):zgd ex r=Got b (.mk 5 (txt r) 0 [] [t],r1):=by unfold asg at h;rw[zgd,if_pos h,h2];cases b<;>rfl
theorem zn3 {ex:X} {r:R} (h:asg r=false) (h2:binary ex r=none):zgd ex r=none:=by unfold asg at h;rw[zgd,if_neg (by rw[h];simp),h2]
theorem zr1 {ex:X} {r r1:R} {t:E} {s:Bool} (h:asg r=false) (h2:binary ex r=some (t,s,r1)) (h3:zbe ex none_ [] r1=none):zgd ex r=none:=by unfold asg at h;rw[zgd,if_neg (by rw[h];simp),h2];simp only;rw[h3]
theorem zsd {ex:X} {r r1 r2:R} {t:E} {s:Bool} {sel:ByteArray} {L:List E} (h:asg r=false) (h2:binary ex r=some (t,s,r1)) (h3:zbe ex none_ [] r1=some (sel,L,r2)):
  zgd ex r=if sel.size=0 then zc5 ex t s r2 else zc5 ex (zec t sel L) true r2:=by
 unfold asg at h;rw[zgd,if_neg (by rw[h];simp),h2];simp only;rw[h3]
def z7b (t:E):Prop:=∃ e s args,t=zec e s args
theorem z2m:∀ (r:R) (e:E) (s:Bool),(s=true->z7b e)->(zdn e s r).2.1=true->z7b (zdn e s r).1
 | [],e,s,h,h2=>h h2
 | t::r,e,s,h,h2=>by
  rw[zdn] at h2 ⊢
  split at h2
  ·rename_i hk
   rw[if_pos hk];exact z2m r _ true (fun _=>⟨_,_,_,rfl⟩) h2
  ·rename_i hk
   rw[if_neg hk];exact h h2
theorem zz4 {ex:X} {r r1:R} {t:E} {s:Bool} (h:unary ex r=some (t,s,r1)) (hs:s=true):z7b t:=by
 unfold unary at h
 split at h
 ·cases h
 ·rename_i e r2 _
  have:=z2m r2 e false (fun e=>nomatch e)
  injection h with h
  rw[h] at this;exact this hs
theorem z8u {ex:X}:∀ (m:Nat) (r:R) (e e':E) (s s':Bool) (r1:R),r.length<=m->(s=true->z7b e)->zc3 ex e s r=some (e',s',r1)->s'=true->z7b e':=by
 intro m
 induction m with
 | zero=>intro r e e' s s' r1 hm hS h hs;have:r=[]:=List.eq_nil_of_length_eq_zero (by omega);subst this;rw[zc3] at h;simp[hd] at h;obtain ⟨rfl,rfl,-⟩:=h;exact hS hs
 | succ m ih=>
  intro r e e' s s' r1 hm hS h hs;rw[zc3] at h
  split at h
  ·split at h
   ·cases h
   ·split at h
    ·rename_i hlt
     exact ih _ _ _ _ _ _ (by omega) (fun _=>⟨_,_,_,rfl⟩) h hs
    ·cases h
  ·cases h;exact hS hs
theorem zop {ex:X} {r r1:R} {t:E} (h:binary ex r=some (t,true,r1)):z7b t:=by
 unfold binary at h
 split at h
 ·cases h
 ·rename_i e s r2 hu
  exact z8u _ _ _ _ _ _ _ (zL _) (fun hs=>zz4 hu hs) h rfl
theorem zx4 {ex:X} {ks:List E} {r:R} (h:mk zhd r=false):zcm ex ks r=some (ks,r):=by rw[zcm,if_neg (by rw[h];simp)]
theorem zzj {ex:X} {ks:List E} {r:R} (h:mk zhd r=true) (h2:message ex r.tail=none):zcm ex ks r=none:=by rw[zcm,if_pos h,h2]
theorem yag {ex:X} (hx:zcz ex) {ks:List E} {r r1:R} {m:E} (h:mk zhd r=true) (h2:message ex r.tail=some (m,r1)):zcm ex ks r=zcm ex (ks++[m]) r1:=by have hlt:r1.length<r.length:=Nat.lt_trans (zfw hx h2) (zhp h);rw[zcm,if_pos h,h2];simp only;rw[dif_pos hlt]
theorem zng {ex:X} {e:E} {s:Bool} {r:R} (h:mk zhd r=false):zc5 ex e s r=some (e,r):=by rw[zc5,if_neg (by rw[h];simp)]
theorem zkh {ex:X} {e:E} {r:R} (h:mk zhd r=true):zc5 ex e false r=none:=by rw[zc5,if_pos h,if_neg (by simp)]
theorem zxk {ex:X} {e:E} {s:ByteArray} {args:List E} {r:R} (h:mk zhd r=true) {b:Bool} {ks:List E} {r1:R} (h2:zcm ex [e,zis s args] r=Got b (ks,r1)):zc5 ex (zec e s args) true r=Got b (.mk 7 none_ 0 [] ks,r1):=by
 rw[zc5,if_pos h,if_pos rfl];show (match zcm ex [e,zis s args] r with|none=>none|some (ks,r1)=>some (E.mk 7 none_ 0 [] ks,r1))=_
 rw[h2];cases b<;>rfl
theorem zj9 (r:R):isB 7 ⟨#[59]⟩ r=mk zhd r:=ziv ⟨#[59]⟩ (by decide) r
theorem z3d {t:Tok.T}:asg [t]=false:=by simp[asg,mk]
theorem z6p {t u:Tok.T} {r:R}:asg (t::u::r)=(decide (t.kind=1)&&(decide (u.kind=7)&&decide (u.text=zuh))):=rfl
theorem ydx {r:R} (h:hd 1 r=false):asg r=false:=by unfold asg;rw[h];rfl
end Parser
namespace Parser
open Go.RowKit
open Strs Tree Gram
theorem zaq {w w':World} (h:∃ p:Regrown,w'=Sort.grow (redrawn w p.d) p.os):Below w.heap.size w w':=by obtain ⟨p,rfl⟩:=h;exact below_regrown _ _ _
theorem yck {base lo:Nat} {w:World} {x y:Item} (hx:zaw lo w x.1 x.2.1 x.2.2) (hy:zaw lo w y.1 y.2.1 y.2.2) (hb:base<=lo) (hw:base<=w.heap.size):
  Out base (w.alloc (.cells #[.int .i64 x.1.kind,.string x.1.text,.int .i64 x.1.num,x.2.1,x.2.2,.int .i64 y.1.kind,.string y.1.text,.int .i64 y.1.num,y.2.1,y.2.2] 25)).drew [x,y] (.slice (some ⟨w.heap.size,0,none⟩) 2 2):=by
 have hba:Below w.heap.size w (w.alloc (.cells #[.int .i64 x.1.kind,.string x.1.text,.int .i64 x.1.num,x.2.1,x.2.2,.int .i64 y.1.kind,.string y.1.text,.int .i64 y.1.num,y.2.1,y.2.2] 25)).drew:=((zB _ _).alloc (zL _) _).drew;have ho:=World.ownsRow_lit (base:=base) (e:=25) (size:=5) w #[.int .i64 x.1.kind,.string x.1.text,.int .i64 x.1.num,x.2.1,x.2.2,.int .i64 y.1.kind,.string y.1.text,.int .i64 y.1.num,y.2.1,y.2.2] 2 hw (by unfold maxLen;omega) rfl
 refine ⟨own_keep ho ((zB _ _).drew),by simp,fun z hz=>?_⟩
 refine ⟨lo,w,hb,?_,za1 hba,hba.size,fun k hk=>.inr ?_⟩
 ·simp only[List.mem_cons,List.not_mem_nil,or_false] at hz
  rcases hz with rfl|rfl
  ·exact hx
  ·exact hy
 ·simp[Value.ownBlock] at hk
  omega
theorem z13 {lo:Nat} {w:World} {x:Item} {L:List Item} {bk ok ck:Nat} (ha:All lo w L) (h1:L.length+1<=ck) (h2:ck<=maxLen) (hb:lo<=bk) (hc:∀ j u,(ziy (x::L))[j]?=some u->w.cell? ⟨bk,ok+j,none⟩=some u):
  zdh lo w (zbu L) (.slice (if ck=1 then some ⟨bk,ok,none⟩ else some ⟨bk,ok+5,none⟩) L.length (ck-1)):=by
 have hl:(zbu L).length=L.length:=by simp[zbu]
 refine ⟨_,ck-1,by rw[hl],⟨by omega,by omega⟩,fun hp=>⟨bk,ok+5,by rw[if_neg (by omega)],hb,yak L _ ha fun j u hj=>?_⟩⟩
 have:=hc (j+5) u (by have he:ziy (x::L)=cells5 x++ziy L:=rfl;rw[he];simp[cells5];exact hj)
 rw[show ok+5+j=ok+(j+5) by omega]
 exact this
theorem z2v {n:Nat} (hx:XC n) {P:Cst} {p:Nat} {w:World} (h:PS P p false w) (hn:(rest P p).length<=n):
  Calls Tryz.prog 27 #[.pointer (some ⟨P.pb,0,none⟩)] w (ycl P w (zgd (expr n) (rest P p))):=by
 have hb0:Below w.heap.size w (w.alloc (.cells #[.int .i64 0,.string ⟨#[]⟩,.int .i64 0,.slice none 0 0,.slice none 0 0] 25)):=(zB _ _).alloc (zL _) _;have h1:=h.below hb0;have H1:=zH h1;have HT:=zH ((za2.refl P w).low hb0);have HZ:=zH (zcd w 25);have HLO:=zH h.lo;have hpbl:=h.size;have h8:=h.fit.len;have hpl:=h.le;have hcap:=h.fit.cap;have HLEN:=zH hn
 have HF:=zH h.fit;have KI:=fun d os=>zH (Calls.regrown_of (w:=w.alloc (.cells #[.int .i64 0,.string ⟨#[]⟩,.int .i64 0,.slice none 0 0,.slice none 0 0] 25)) (d:=d) (os:=os) ((ze4 (h1.below (below_regrown _ d os)) 1 ⟨#[]⟩).mono fun e w' ⟨a,b⟩=>⟨a,b.below⟩))
 have c0:=cell_regrown h1.c0;have c1:=cell_regrown h1.c1;have HTOK:=zH h1.tok;generalize hG:zgd (expr n) (rest P p)=G;have HG:Hid (G=zgd (expr n) (rest P p)):=zH hG.symm;clear h h1 hb0 hn hG;generalize hpb:P.pb=pb at *;have HPB:=zH hpb;clear hpb;generalize hNN:P.toks.length=N at *;have HNN:=zH hNN;clear hNN;generalize hcc:P.cap=cap at *;generalize hta:P.ta=ta at *;have HTA:=zH hta;clear hta hcc
 go_enter Tryz.func27,Tryz.ntmps27
 go_upto_region 1 with fail
 go_cut [53] from 9 to 53 (fun c wx=>c=.bool (asg (rest P p))/\Below (w.alloc (.cells #[.int .i64 0,.string ⟨#[]⟩,.int .i64 0,.slice none 0 0,.slice none 0 0] 25)).heap.size (w.alloc (.cells #[.int .i64 0,.string ⟨#[]⟩,.int .i64 0,.slice none 0 0,.slice none 0 0] 25)) wx)
 case first=>
  generalize hD:asg (rest P p)=D;have HD:=zH hD;clear hD;have HD0:=zH HD.out;cases hb:isB 1 ⟨#[]⟩ (rest P p) with
  | false=>
   rw[hb] at KI;have hD:D=false:=by rw[<-HD.out,ydx (by rw[<-zbw];exact hb)]
   have HA:=zH (HD0.out.trans hD);subst hD;clear hb HD;refine wp_region_quiet_below (by kernel_rfl) (by kernel_rfl) ?_
   repeat (go_big_quiet_step ((go_at_call 63;exact (KI _ _).out)))
   refine wpQuiet_nil ?_;intro w2 hw2;have hb2:=zH (zaq hw2);clear hw2;go_wp2_with fail
   go_meet
   exact ⟨congrArg Value.bool HA.out.symm,hb2.out⟩
  | true=>
   rw[hb] at KI;obtain ⟨t,r,hr,hk⟩:=zlq hb;rw[hr] at HD;obtain ⟨hp1,-,hr1⟩:=zb8 hr;rw[HNN.out] at hp1;clear hb hr;cases r with
   | nil=>
    have hp2:=zn4 (by rw[HNN.out];omega) hr1;rw[HNN.out] at hp2;have hD:D=false:=by rw[<-HD.out,z3d]
    have HA:=zH (HD0.out.trans hD);subst hD;have b1:decide ((p:Int)+1<(N:Int))=false:=decide_eq_false (by omega);clear HD hr1 hp2;refine wp_region_quiet_below (by kernel_rfl) (by kernel_rfl) ?_
    repeat (go_big_quiet_step ((go_at_call 63;exact (KI _ _).out)))
    refine wpQuiet_nil ?_;intro w2 hw2;have hb2:=zH (zaq hw2);clear hw2;go_wp2_with fail
    go_meet
    exact ⟨congrArg Value.bool HA.out.symm,hb2.out⟩
   | cons u r=>
    obtain ⟨hp2,ht2,-⟩:=zb8 hr1;rw[HNN.out] at hp2;have b1:decide ((p:Int)+1<(N:Int))=true:=decide_eq_true (by omega);obtain ⟨tb,tf,e,-,d0,d1,-⟩:=HTOK.out _ _ ht2;subst e;have k0:=cell_regrown d0;have k1:=cell_regrown d1;rw[z6p,decide_eq_true hk] at HD;clear hr1 ht2 d0 d1 hk;generalize u.kind=uk at *;generalize u.text=ut at *;by_cases h7:uk=7
    case neg=>
     have hD:D=false:=by rw[<-HD.out,decide_eq_false h7];rfl
     have HA:=zH (HD0.out.trans hD);subst hD;have b2:(uk==7)=false:=by rw[zen,decide_eq_false h7]
     clear HD h7;refine wp_region_quiet_below (by kernel_rfl) (by kernel_rfl) ?_
     repeat (go_big_quiet_step ((go_at_call 63;exact (KI _ _).out)))
     refine wpQuiet_nil ?_;intro w2 hw2;have hb2:=zH (zaq hw2);clear hw2;go_wp2_with fail
     go_meet
     exact ⟨congrArg Value.bool HA.out.symm,hb2.out⟩
    subst h7;by_cases hxg:ut=zuh
    ·have hD:D=true:=by rw[<-HD.out,decide_eq_true hxg];rfl
     have HA:=zH (HD0.out.trans hD);subst hD;subst hxg;have b2:(zuh.toList==[58,61])=true:=by rw[ByteArray.toList_eq];rfl
     clear HD;refine wp_region_quiet_below (by kernel_rfl) (by kernel_rfl) ?_
     repeat (go_big_quiet_step ((go_at_call 63;exact (KI _ _).out)))
     refine wpQuiet_nil ?_;intro w2 hw2;have hb2:=zH (zaq hw2);clear hw2;go_wp2_with fail
     go_meet
     exact ⟨congrArg Value.bool HA.out.symm,hb2.out⟩
    ·have hD:D=false:=by rw[<-HD.out,decide_eq_false hxg];rfl
     have HA:=zH (HD0.out.trans hD);subst hD
     have b2:(ut.toList==[58,61])=false:=by have:=zim hxg;rw[ByteArray.toList_eq zuh] at this;exact this
     clear HD hxg;refine wp_region_quiet_below (by kernel_rfl) (by kernel_rfl) ?_
     repeat (go_big_quiet_step ((go_at_call 63;exact (KI _ _).out)))
     refine wpQuiet_nil ?_;intro w2 hw2;have hb2:=zH (zaq hw2);clear hw2;go_wp2_with fail
     go_meet
     exact ⟨congrArg Value.bool HA.out.symm,hb2.out⟩
 case rest=>
  obtain ⟨rfl,hbc⟩:=hcut;have HB:=zH hbc;have HPS:=zH (H1.out.below hbc);have HTC:=zH (HT.out.below hbc);have HZC:=zH (HZ.out.step hbc);clear KI c0 c1 HTOK hbc H1 HT HZ;cases hb:asg (rest P p) with
  | true=>
   have HB1:=zH hb
   have HI1:Hid (isB 1 ⟨#[]⟩ (rest P p)=true):=zH (by rw[zbw];unfold asg at hb;rw[Bool.and_eq_true] at hb;exact hb.1)
   have HLT:Hid (p+2<=N):=zH (by unfold asg at hb;rw[Bool.and_eq_true] at hb;have h1:=zhp hb.2;rw[zab,zab,zaf,zaf,HNN.out] at h1;omega)
   have hlt:=HLT.out;clear hb;have KN:=zH (zck HPS.out HI1.out);rw[HPB.out] at KN;have hx4:=zcn (p:=p) HF.out;generalize hxx:txt (rest P p)=x at *;have HXX:=zH hxx;clear hxx;go_wp2_with fail
   refine KN.out.mono ?_;rintro e w3 ⟨rfl,h3,ht3⟩;have h4:=h3.go (p+2) (by rw[HNN.out];exact HLT.out);have ht4:=(HTC.out.trans ht3).set 1 (.int .i64 ((p:Int)+1+1));rw[show ((p+2:Nat):Int)=(p:Int)+1+1 by omega] at h4
   have HPS3:=zH h4;have HT3:=zH ht4;clear h4 ht4;have c1:=h3.c1;have fz:=h3.fz 1;rw[HPB.out] at c1 fz HPS3 HT3;have HZ3:=zH (HZC.out.turn ht3 (by rw[HPB.out];omega));have hg3:=HZ3.out.size;clear h3 ht3 KN
   have KX:=zH (hx P (p+2) _ HPS3.out (by have h1:=HLEN.out;rw[zaf,HNN.out] at h1 ⊢;omega))
   rw[HPB.out] at KX;have HZ4:=zH (HZ3.out.turn ((za2.refl P w3).set 1 (.int .i64 ((p:Int)+1+1))) (by rw[HPB.out];omega));rw[HPB.out] at HZ4;have hw4:w.heap.size+1<=(w3.setCell ⟨pb,1,none⟩ (.int .i64 ((p:Int)+1+1))).heap.size:=by simp[World.setCell];omega
   go_wp2_with fail
   refine KX.out.mono ?_;rintro e w5 ⟨v5,t5,q5,b5,rfl,hr5,h5,ht5,hg5⟩;obtain ⟨xn5,xk5,rfl,hnode5⟩:=hr5;obtain ⟨za,zl,zc,va,vl,vc,rfl,rfl⟩:=zcw hnode5;have HG2:Hid (G=Got b5 (.mk 5 x 0 [] [t5],rest P q5)):=zH (by rw[HG.out,z8z HB1.out (by rw[zab,zab];exact hg5),HXX.out])
   have hb9:=zai (zB w.heap.size w5) (B:=w.heap.size) (zL _) (.int .i64 5) (.string x) (.int .i64 0) (.slice none 0 0) (.slice (some ⟨w5.heap.size,0,none⟩) 1 1);have hs9:(zgq w5 w.heap.size (.int .i64 5) (.string x) (.int .i64 0) (.slice none 0 0) (.slice (some ⟨w5.heap.size,0,none⟩) 1 1)).heap.size=w5.heap.size:=by simp[zgq,World.setCell]
   have hba:∀ W:World,Below W.heap.size W (W.alloc (.cells #[.int .i64 t5.kind,.string t5.text,.int .i64 t5.num,.slice za zl zc,.slice va vl vc] 25)):=fun W=>(zB _ _).alloc (zL _) _
   have HK6:=zH (zss (w:=zgq w5 w.heap.size (.int .i64 5) (.string x) (.int .i64 0) (.slice none 0 0) (.slice (some ⟨w5.heap.size,0,none⟩) 1 1)) (lo:=w.heap.size) (zaw.keep (lo:=w.heap.size) (hi:=w.heap.size+1) (Nat.le_succ _) (zcl w5 (Nat.lt_succ_self _) (.int .i64 5) (.string x) (.int .i64 0) (.slice none 0 0) (.slice (some ⟨w5.heap.size,0,none⟩) 1 1)) _ _ _ (zaw.keep (lo:=w.heap.size+1) hw4 (fun _ _ _ _ hc=>hc) _ _ _ hnode5)) (by have:=ht5.size;rw[hs9];omega))
   rw[hs9] at HK6;have HPS6:=zH ((h5.low hb9 HLO.out).below (hba _));have HT6:=zH (((HT3.out.trans ht5).low hb9).below (hba _));obtain ⟨hsz,z0,z1,z2,z3,z4,fz5⟩:=HZ4.out.turn ht5 (by rw[HPB.out];omega);clear h5 ht5 hg5 hnode5 hba hb9 hs9 fz c1;go_wp2_with fail
   refine bodyPost_ret (v:=.agg #[.int .i64 5,.string x,.int .i64 0,.slice none 0 0,.slice (some ⟨w5.heap.size,0,none⟩) 1 1]) (by simp[results,Tryz.results27,go_sem, *]) rfl ?_;exact ⟨_,.mk 5 x 0 [] [t5],q5,b5,rfl,⟨_,_,rfl,zbn.2 ⟨by rfl,by rfl,by show x.size<=maxLen;unfold maxLen;omega,ze2 _ _,HK6.out.kids⟩⟩,HPS6.out,HT6.out,HG2.out⟩
  | false=>
   have HB0:=zH hb;clear hb;have KB:=zH (zor hx HPS.out HLEN.out);rw[HPB.out] at KB;go_wp2_with fail
   refine KB.out.mono ?_;rintro e w3 ⟨v3,t3,s3,q3,b3,rfl,hr3,h3,ht3,hg3⟩;obtain ⟨xn,xk,rfl,hnode⟩:=hr3;obtain ⟨xa,xl,xc,ya,yl,yc,rfl,rfl⟩:=zcw hnode;have hba:Below w3.heap.size w3 (w3.alloc (.cells #[.int .i64 t3.kind,.string t3.text,.int .i64 t3.num,.slice xa xl xc,.slice ya yl yc] 25)):=(zB _ _).alloc (zL _) _;have HPS3:=zH (h3.below hba);have HT3:=zH ((HTC.out.trans ht3).below hba)
   have HZ3:=zH ((HZC.out.turn ht3 (by rw[HPB.out];omega)).step hba);have HF3:=zH (zcq w3 (.int .i64 t3.kind) (.string t3.text) (.int .i64 t3.num) (.slice xa xl xc) (.slice ya yl yc) 25);have HN3:=zH (zxc (B:=w3.heap.size) (lo:=w.heap.size+1) (zaw.keep HZC.out.size (fun _ _ _ _ hc=>hc) _ _ _ hnode) (zL _) (za1 hba))
   have HG3:Hid ((b3=false->p<=q3/\binary (expr n) (rest P p)=some (t3,s3,rest P q3))/\(b3=true->G=none)):=by
    refine zH ⟨fun e=>?_,fun e=>?_⟩
    ·rw[e] at hg3
     refine ⟨?_,hg3⟩;have:=zi4 (zau n) hg3;rw[zaf,zaf] at this;omega
    ·rw[e] at hg3
     rw[HG.out,zn3 HB0.out hg3]
   have hB3:w.heap.size<w3.heap.size:=Nat.lt_of_lt_of_le HZC.out.size ht3.size;have hw3:(w3.alloc (.cells #[.int .i64 t3.kind,.string t3.text,.int .i64 t3.num,.slice xa xl xc,.slice ya yl yc] 25)).heap.size=w3.heap.size+1:=by simp
   have KK:=zH (zy1 hx HPS3.out (fun e=>by have h1:=HLEN.out;have h2:=(HG3.out.1 e).1;rw[zaf] at h1 ⊢;omega))
   rw[HPB.out] at KK;clear h3 ht3 hnode hg3 hba KB;go_wp2_with fail
   refine KK.out.mono ?_;rintro e w4 ⟨sel,v4,L,q,b,rfl,hk4,hL,hsel,h4,ht4,hbb,-,hg4⟩;obtain ⟨ka,kc,hv4,-⟩:=hk4.kids;have hlt:(zbu L).length=L.length:=by simp[zbu]
   rw[hlt] at hv4;subst hv4;rw[hw3] at hk4;have HK4:=zH hk4;have HPS4:=zH h4;have HT4:=zH (HT3.out.trans ht4);have HZ4:=zH (HZ3.out.turn ht4 (by rw[HPB.out];omega));have HF4:=zH (HF3.out.turn ht4 (by rw[HPB.out];omega));have HN4:=zH (HN3.out.kept ((ht4.ziz (w:=w) (by rw[HPB.out];exact hpbl)).mono (Nat.le_succ _)))
   have HG4:Hid ((b=false->b3=false/\G=if sel.size=0 then zc5 (expr n) t3 s3 (rest P q) else zc5 (expr n) (zec t3 sel (zbu L)) true (rest P q))/\(b=true->G=none)):=by
    refine zH ⟨fun e=>?_,fun e=>?_⟩
    ·have e3:=hbb e
     have h1:=hg4 e3;rw[e] at h1;exact ⟨e3,by rw[HG.out,zsd HB0.out (HG3.out.1 e3).2 h1]⟩
    ·cases b3 with
     | true=>exact HG3.out.2 rfl
     | false=>have h1:=hg4 rfl;rw[e] at h1;rw[HG.out,zr1 HB0.out (HG3.out.1 rfl).2 h1]
   have HQ4:Hid (b=false->(rest P q).length<=n):=zH (fun e=>by have e3:=hbb e;have h1:=hg4 e3;rw[e] at h1;have h2:=zjq _ _ _ _ _ _ _ (zL _) h1;have h3:=HLEN.out;have h4:=(HG3.out.1 e3).1;rw[zaf P p] at h3;rw[zaf P q3] at h2;omega)
   have hsl:sel.size<=4000*801:=hsel;have h34:=ht4.size;rw[hw3] at h34;clear hk4 h4 ht4 hbb hg4 hlt KK hw3 HZ3 HF3 HN3 HT3 HPS3
   go_upto_if 79 with fail
   go_cut [5] from 78 to 83 (fun s5 wx=>∃ (t:E) (s:Bool) (xa:Option Addr) (xl xc:Nat) (ya:Option Addr) (yl yc:Nat),s5=.bool s/\PS P q b wx/\za2 P w wx/\Zero w.heap.size wx/\zjd w3.heap.size (.int .i64 t.kind) (.string t.text) (.int .i64 t.num) (.slice xa xl xc) (.slice ya yl yc) wx/\Off w3.heap.size (w.heap.size+1) wx t (.slice xa xl xc) (.slice ya yl yc)/\(s=true->b=false->z7b t)/\(b=false->G=zc5 (expr n) t s (rest P q))/\(b=true->G=none))
   case first=>
    by_cases hs:sel.size=0
    ·have HG5:Hid (b=false->G=zc5 (expr n) t3 s3 (rest P q)):=zH (fun e=>by rw[(HG4.out.1 e).2,if_pos hs])
     have e2:sel.toList.isEmpty=true:=by rw[ByteArray.toList_eq,List.isEmpty_iff];exact List.eq_nil_of_length_eq_zero (by rw[Array.length_toList];exact hs)
     have e3:(!sel.toList.isEmpty)=false:=by rw[e2];rfl
     simp only[e3];clear hs e3;go_wp2_with fail
     go_meet
     refine ⟨t3,s3,xa,xl,xc,ya,yl,yc,rfl,HPS4.out,HT4.out,HZ4.out,HF4.out,HN4.out,fun hs hb=>?_,HG5.out,HG4.out.2⟩
     have h1:=(HG3.out.1 (HG4.out.1 hb).1).2;rw[hs] at h1;exact zop h1
    ·have HG5:Hid (b=false->G=zc5 (expr n) (zec t3 sel (zbu L)) true (rest P q)):=zH (fun e=>by rw[(HG4.out.1 e).2,if_neg hs])
     have e2:=zhr hs;have e3:(!sel.toList.isEmpty)=true:=by rw[e2];rfl
     simp only[e3];clear hs e3;obtain ⟨hsz5,f0,f1,f2,f3,f4,ffz⟩:=HF4.out;have KS:=zH (zso (lo:=w.heap.size+1) (L:=L) (s:=sel) HN4.out.on (HK4.out.mono (by omega)) (by omega));go_wp2_with fail
     refine KS.out.mono ?_;rintro e w7 ⟨vk',rfl,ho7,hb7⟩;obtain ⟨ka',kc',rfl⟩:=Kit.za5 ho7;have HPS7:=zH (HPS4.out.below hb7);have HT7:=zH (HT4.out.below hb7);have HZ7:=zH (HZ4.out.step hb7);have HF7:=zH (HF4.out.step hb7);have HOF7:=zH (zsi (L:=L) (s:=sel) HN4.out (fun y hy=>zs9 (HK4.out.1 y hy) (by omega) (by omega)) (by unfold maxLen;omega) hb7 ho7 (by omega) (by omega))
     clear ho7 hb7 f0 f1 f2 f3 f4 ffz;obtain ⟨hs3,f0,f1,f2,f3,f4,ffz⟩:=HF7.out;go_wp2_with fail
     go_meet
     have hb9:=zai (zB w.heap.size w7) (B:=w3.heap.size) (Nat.le_of_lt hB3) (.int .i64 6) (.string sel) (.int .i64 0) (.slice none 0 0) (.slice ka' (L.length+1) kc');have hb8:=zai (zB (w.heap.size+1) w7) (B:=w3.heap.size) hB3 (.int .i64 6) (.string sel) (.int .i64 0) (.slice none 0 0) (.slice ka' (L.length+1) kc');exact ⟨zec t3 sel (zbu L),true,none,0,0,ka',L.length+1,kc',rfl,HPS7.out.low hb9 HLO.out,HT7.out.low hb9,HZ7.out.low hb8 (Nat.lt_succ_self _),zgr HF7.out,HOF7.out.keep (zr2 w7 _ _ _ _ _),fun _ _=>⟨_,_,_,rfl⟩,HG5.out,HG4.out.2⟩
   case rest=>
    clear HG3 HG4 HPS4 HT4 HZ4 HF4 HN4 HK4 HB HPS HTC HZC HB0 HG;obtain ⟨t,s,xa,xl,xc,ya,yl,yc,rfl,hps,htr,hz,hf,hoff,hsent,hgood,hbad⟩:=hcut;have HPS:=zH hps;have HTR:=zH htr;have HZ:=zH hz;have HFV:=zH hf;have HOFF:=zH hoff;have hgw:w.heap.size<=wc.heap.size:=htr.size;cases b with
    | true=>
     have c2:=hps.c2;rw[HPB.out] at c2;have HG2:Hid (G=Got true (t,rest P q)):=zH (hbad rfl);clear hps htr hz hoff hsent hgood hbad;obtain ⟨hsz5,f0,f1,f2,f3,f4,ffz⟩:=hf;obtain ⟨hszz,y0,y1,y2,y3,y4,yfz⟩:=HZ.out;go_wp2_with fail
     have hb9:=zai (zB w.heap.size (wc)) (B:=w.heap.size) (zL _) (.int .i64 t.kind) (.string t.text) (.int .i64 t.num) (.slice xa xl xc) (.slice ya yl yc);refine bodyPost_ret (v:=.agg #[.int .i64 t.kind,.string t.text,.int .i64 t.num,.slice xa xl xc,.slice ya yl yc]) (by simp[results,Tryz.results27,go_sem, *]) rfl ?_;exact ⟨_,t,q,true,rfl,⟨_,_,rfl,zaw.keep (lo:=w.heap.size) (hi:=w.heap.size+1) (Nat.le_succ _) (zcl (wc) (Nat.lt_succ_self _) _ _ _ _ _) _ _ _ (HOFF.out.on)⟩,(HPS.out).low hb9 HLO.out,(HTR.out).low hb9,HG2.out⟩
    | false=>
     have c2:=hps.c2;rw[HPB.out] at c2;have KI:=zH (ze4 hps 7 ⟨#[59]⟩);rw[HPB.out] at KI;have HGD:=zH (hgood rfl);have HSN:=zH (fun hs:s=true=>hsent hs rfl)
     clear hps htr hz hoff hsent hgood hbad hf;cases hb:isB 7 ⟨#[59]⟩ (rest P q) with
     | false=>
      have HG2:Hid (G=Got false (t,rest P q)):=zH (by rw[HGD.out,zng (by rw[<-zj9];exact hb)];rfl)
      rw[hb] at KI;clear hb;go_wp2_with fail
      refine KI.out.mono ?_;rintro e w6 ⟨rfl,hd⟩;have HPS6:=zH (HPS.out.drawn hd);have HTR6:=zH (HTR.out.drawn hd);have HOF6:=zH (HOFF.out.kept (za1 hd.below));obtain ⟨hsz6,f0,f1,f2,f3,f4,ffz⟩:=HFV.out.step hd.below;obtain ⟨hszz,y0,y1,y2,y3,y4,yfz⟩:=HZ.out.step hd.below;clear hd KI c2;go_wp2_with fail
      have hb9:=zai (zB w.heap.size (w6)) (B:=w.heap.size) (zL _) (.int .i64 t.kind) (.string t.text) (.int .i64 t.num) (.slice xa xl xc) (.slice ya yl yc);refine bodyPost_ret (v:=.agg #[.int .i64 t.kind,.string t.text,.int .i64 t.num,.slice xa xl xc,.slice ya yl yc]) (by simp[results,Tryz.results27,go_sem, *]) rfl ?_;exact ⟨_,t,q,false,rfl,⟨_,_,rfl,zaw.keep (lo:=w.heap.size) (hi:=w.heap.size+1) (Nat.le_succ _) (zcl (w6) (Nat.lt_succ_self _) _ _ _ _ _) _ _ _ (HOF6.out.on)⟩,(HPS6.out).low hb9 HLO.out,(HTR6.out).low hb9,HG2.out⟩
     | true=>
      have HB:=zH hb;rw[hb] at KI;clear hb;cases s with
      | false=>
       have HG2:Hid (G=Got true (t,rest P q)):=zH (by rw[HGD.out,zkh (by rw[<-zj9];exact HB.out)];rfl)
       go_wp2_with fail
       refine KI.out.mono ?_;rintro e w6 ⟨rfl,hd⟩;have h6:=HPS.out.drawn hd;have ht6:=HTR.out.drawn hd;have tc:=(za2.refl P w6).set 2 (.bool true);rw[HPB.out] at tc;have HPS6:=zH h6.no;have HTR6:=zH (ht6.trans tc);rw[HPB.out] at HPS6;have fzp:=h6.fz 2;have c26:=h6.c2;rw[HPB.out] at fzp c26;have HOF6:=zH ((HOFF.out.kept (za1 hd.below)).kept ((tc.ziz (w:=w) (by rw[HPB.out];exact hpbl)).mono (Nat.le_succ _)))
       obtain ⟨hsz6,f0,f1,f2,f3,f4,ffz⟩:=HFV.out.step hd.below;obtain ⟨hszz,y0,y1,y2,y3,y4,yfz⟩:=HZ.out.step hd.below;clear hd KI c2 h6 ht6 tc;go_wp2_with fail
       have hb9:=zai (zB w.heap.size (w6.setCell ⟨pb,2,none⟩ (.bool true))) (B:=w.heap.size) (zL _) (.int .i64 t.kind) (.string t.text) (.int .i64 t.num) (.slice xa xl xc) (.slice ya yl yc);refine bodyPost_ret (v:=.agg #[.int .i64 t.kind,.string t.text,.int .i64 t.num,.slice xa xl xc,.slice ya yl yc]) (by simp[results,Tryz.results27,go_sem, *]) rfl ?_;exact ⟨_,t,q,true,rfl,⟨_,_,rfl,zaw.keep (lo:=w.heap.size) (hi:=w.heap.size+1) (Nat.le_succ _) (zcl (w6.setCell ⟨pb,2,none⟩ (.bool true)) (Nat.lt_succ_self _) _ _ _ _ _) _ _ _ (HOF6.out.on)⟩,(HPS6.out).low hb9 HLO.out,(HTR6.out).low hb9,HG2.out⟩
      | true=>
       obtain ⟨e0,sl,args,ht⟩:=HSN.out rfl;subst ht;go_wp2_with fail
       refine KI.out.mono ?_;rintro e w6 ⟨rfl,hd⟩;have HPS6:=zH (HPS.out.drawn hd);have HTR6:=zH (HTR.out.drawn hd);have HOF6:=zH (HOFF.out.kept (za1 hd.below));have HZ6:=zH (HZ.out.step hd.below);obtain ⟨hsz6,f0,f1,f2,f3,f4,ffz⟩:=HFV.out.step hd.below;clear hd KI c2;obtain ⟨-,-,htx,-,hkids⟩:=zbn.1 HOF6.out.on;obtain ⟨L0,hL0,hK0⟩:=z0z hkids (by simp[zec,E.kids])
       cases L0 with
       | nil=>simp[zbu,zec,E.kids] at hL0
       | cons x0 L1=>
        obtain ⟨x0e,x0n,x0k⟩:=x0;have hn0:=hK0.1 _ (List.mem_cons_self ..);obtain ⟨za,zl,zc,va,vl,vc,rfl,rfl⟩:=zcw hn0
        obtain ⟨bk,ok,ck,hv,m1,m2,hbk,hc⟩:∃ bk ok ck,Value.slice ya yl yc=.slice (some ⟨bk,ok,none⟩) (L1.length+1) ck/\L1.length+1<=ck/\ck<=maxLen/\w.heap.size+1<=bk/\∀ j u,(ziy ((x0e,.slice za zl zc,.slice va vl vc)::L1))[j]?=some u->w6.cell? ⟨bk,ok+j,none⟩=some u:=by
         rcases hK0.2 with ⟨-,h⟩|⟨bk,ok,ck,hv,m1,m2,hbk,hc⟩
         ·cases h
         ·exact ⟨bk,ok,ck,hv,m1,m2,hbk,hc⟩
        injection hv with hv1 hv2 hv3
        subst hv1 hv2 hv3;have g0:=hc 0 _ rfl;have g1:=hc 1 _ rfl;have g2:=hc 2 _ rfl;have g3:=hc 3 _ rfl;have g4:=hc 4 _ rfl;rw[Nat.add_zero] at g0;simp only[zec,E.kind,E.text,E.num] at f0 f1 f2 f3;have HK0:=zH hK0;have HC:=zH hc;have HL0:=zH hL0;have HTX:=zH htx;clear hK0 hc hL0 htx hn0 hkids;unfold maxLen at m2;go_wp2_with fail
        go_region
        obtain ⟨i0,hi,hz0,hz1,hz2⟩:=info_parts zp6
        have hx0:x0e=e0:=by have:=HL0.out;simp[zbu,zec,E.kids] at this;exact this.1
        have hx1:zbu L1=args:=by have:=HL0.out;simp[zbu,zec,E.kids] at this;simp[zbu];exact this.2
        have HW8:=zH (yck (base:=w.heap.size+1) (lo:=w.heap.size+1) (w:=w6) (x:=(x0e,.slice za zl zc,.slice va vl vc)) (y:=(zis sl args,.slice none 0 0,.slice (if yc=1 then some ⟨bk,ok,none⟩ else some ⟨bk,ok+5,none⟩) L1.length (yc-1)))
         (HK0.out.1 _ (List.mem_cons_self ..)) (zbn.2 ⟨by rfl,by rfl,HTX.out,ze2 _ _,by
          have:=z13 (lo:=w.heap.size+1) (w:=w6) (x:=(x0e,.slice za zl zc,.slice va vl vc)) (L:=L1) (bk:=bk) (ok:=ok) (ck:=yc) (fun y hy=>HK0.out.1 y (List.mem_cons_of_mem _ hy)) m1 (by unfold maxLen;omega) hbk HC.out
          rw[hx1] at this;exact this⟩) (zL _) HZ6.out.size)
        have hb8:Below w6.heap.size w6 (w6.alloc (.cells #[.int .i64 x0e.kind,.string x0e.text,.int .i64 x0e.num,.slice za zl zc,.slice va vl vc,.int .i64 6,.string sl,.int .i64 0,.slice none 0 0,.slice (if yc=1 then some ⟨bk,ok,none⟩ else some ⟨bk,ok+5,none⟩) L1.length (yc-1)] 25)).drew:=((zB _ _).alloc (zL _) _).drew
        have HPS8:=zH (HPS6.out.below hb8);have HT8:=zH (HTR6.out.below hb8);have HZ8:=zH (HZ6.out.step hb8);have HT2:Hid (zbu [((x0e,.slice za zl zc,.slice va vl vc):Item),(zis sl args,.slice none 0 0,.slice (if yc=1 then some ⟨bk,ok,none⟩ else some ⟨bk,ok+5,none⟩) L1.length (yc-1))]=[e0,zis sl args]):=zH (by rw[<-hx0];rfl)
        clear hb8 HK0 HC HL0 HTX hx0 hx1 HOF6 HZ6 HPS6 HTR6 g0 g1 g2 g3 g4 f0 f1 f2 f3 f4 ffz;generalize (if yc=1 then some ⟨bk,ok,none⟩ else some ⟨bk,ok+5,none⟩:Option Addr)=sa at *
        generalize hC:zcm (expr n) [e0,zis sl args] (rest P q)=C;have HCC:=zH hC;have HGC:Hid (∀ b ks r1,C=Got b (ks,r1)->G=Got b (.mk 7 none_ 0 [] ks,r1)):=zH (fun b ks r1 h=>by rw[HGD.out,zxk (by rw[<-zj9];exact HB.out) (hC.trans h)])
        clear hC;have HLO1:=zH (HLO.out.le (Nat.le_succ w.heap.size));have hqN:=HPS8.out.le;rw[HNN.out] at hqN;have HLQ:Hid ((rest P q).length<=n):=zH (HQ4.out (by simp));go_wp2_with fail
        go_loopw [8] (fun v wr=>∃ (L2:List Item) (q2:Nat) (b:Bool),L2.length<=N+2/\PS P q2 b wr/\za2 P w wr/\Zero w.heap.size wr/\Out (w.heap.size+1) wr L2 v/\(b=false->q<=q2/\L2.length<=q2+2/\C=zcm (expr n) (zbu L2) (rest P q2))/\(b=true->C=none)) (fun _ wr=>left pb N wr)
        case atStart=>exact ⟨_,q,false,by simp,HPS8.out,HT8.out,HZ8.out,HW8.out,fun _=>⟨zL _,by simp,by rw[HT2.out,HCC.out]⟩,fun h=>nomatch h⟩
        case round=>
         clear HW8 HPS8 HT8 HZ8 HT2 HCC;obtain ⟨L2,q2,b,hLN,hps,htr,hz,hout,hgood,hbad⟩:=hrel;have HPS:=zH hps;have HTR:=zH htr;have HZ2:=zH hz;have HOUT:=zH hout;have c2:=hps.c2;rw[HPB.out] at c2;obtain ⟨ra,rc,rfl⟩:=hout.form;have hgw:w.heap.size<=wr.heap.size:=htr.size;have hzs:=hz.size;clear hps htr hout hz;cases b with
         | true=>
          have HG2:Hid (G=Got true (.mk 7 none_ 0 [] (zbu L2),rest P q2)):=zH (HGC.out _ _ _ (hbad rfl));clear hbad hgood;obtain ⟨hszz,y0,y1,y2,y3,y4,yfz⟩:=HZ2.out;go_wp2_with fail
          have hb9:=zai (zB w.heap.size wr) (B:=w.heap.size) (zL _) (.int .i64 7) (.string ⟨#[]⟩) (.int .i64 0) (.slice none 0 0) (.slice ra L2.length rc);refine bodyPost_ret (v:=.agg #[.int .i64 7,.string ⟨#[]⟩,.int .i64 0,.slice none 0 0,.slice ra L2.length rc]) (by simp[results,Tryz.results27,go_sem, *]) rfl ?_;exact ⟨_,.mk 7 none_ 0 [] (zbu L2),q2,true,rfl,⟨_,_,rfl,zbn.2 ⟨by rfl,by rfl,Nat.zero_le _,ze2 _ _,((HOUT.out.kids.keep (zcl wr (Nat.lt_succ_self _) _ _ _ _ _)).mono (Nat.le_succ _)).kids⟩⟩,HPS.out.low hb9 HLO.out,HTR.out.low hb9,HG2.out⟩
         | false=>
          have HGO:=zH (hgood rfl);clear hbad hgood;have hlf:Hid (left pb N wr=1+(N-q2)):=zH (by rw[<-HPB.out];exact HPS.out.ze5 N);cases hb:isB 7 ⟨#[59]⟩ (rest P q2) with
          | false=>
           have HG2:Hid (G=Got false (.mk 7 none_ 0 [] (zbu L2),rest P q2)):=zH (HGC.out _ _ _ (by rw[HGO.out.2.2,zx4 (by rw[<-zj9];exact hb)];rfl))
           have KT:=zH (zfq HPS.out hb);rw[HPB.out] at KT;clear hb;go_wp2_with fail
           refine KT.out.mono ?_;rintro e w7 ⟨rfl,h7,ht7⟩;have HPS7:=zH h7;have HTR7:=zH (HTR.out.trans ht7);have HO7:=zH (HOUT.out.turn ht7 (by rw[HPB.out];omega));obtain ⟨hszz,y0,y1,y2,y3,y4,yfz⟩:=HZ2.out.turn ht7 (by rw[HPB.out];omega);clear h7 ht7 KT c2;go_wp2_with fail
           have hb9:=zai (zB w.heap.size w7) (B:=w.heap.size) (zL _) (.int .i64 7) (.string ⟨#[]⟩) (.int .i64 0) (.slice none 0 0) (.slice ra L2.length rc);refine bodyPost_ret (v:=.agg #[.int .i64 7,.string ⟨#[]⟩,.int .i64 0,.slice none 0 0,.slice ra L2.length rc]) (by simp[results,Tryz.results27,go_sem, *]) rfl ?_;exact ⟨_,.mk 7 none_ 0 [] (zbu L2),q2,false,rfl,⟨_,_,rfl,zbn.2 ⟨by rfl,by rfl,Nat.zero_le _,ze2 _ _,((HO7.out.kids.keep (zcl w7 (Nat.lt_succ_self _) _ _ _ _ _)).mono (Nat.le_succ _)).kids⟩⟩,HPS7.out.low hb9 HLO.out,HTR7.out.low hb9,HG2.out⟩
          | true=>
           have HB2:=zH hb;have hq2:=zkc hb;rw[HNN.out] at hq2;have KT:=zH (zcr HPS.out hb);rw[HPB.out] at KT;clear hb;go_wp2_with fail
           refine KT.out.mono ?_;rintro e w7 ⟨rfl,h7,ht7⟩
           have KM:=zH (zuo hx h7 (by have h1:=HLQ.out;have h2:=HGO.out.1;rw[zaf] at h1 ⊢;omega))
           rw[HPB.out] at KM;have HT7:=zH (HTR.out.trans ht7);have HO7:=zH (HOUT.out.turn ht7 (by rw[HPB.out];omega));have HZ7:=zH (HZ2.out.turn ht7 (by rw[HPB.out];omega));have hg7:=HZ7.out.size;clear h7 ht7 KT c2;go_wp2_with fail
           refine KM.out.mono ?_;rintro e w9 ⟨v9,t9,q9,b9,rfl,hr9,h9,ht9,hg9⟩;obtain ⟨xn9,xk9,rfl,hnode9⟩:=hr9;have HNODE:=zH hnode9;have HPS9:=zH h9;have HT9:=zH (HT7.out.trans ht9);have HO9:=zH (HO7.out.turn ht9 (by rw[HPB.out];omega));have HZ9:=zH (HZ7.out.turn ht9 (by rw[HPB.out];omega));have HBL9:=zH (zx8 HO7.out);have hg9':w.heap.size+1<=w9.heap.size:=Nat.le_trans hg7 ht9.size
           have HONE:=zH (zoa (x:=(t9,xn9,xk9)) hnode9)
           have HQ9:Hid ((b9=false->q2+1<q9/\C=zcm (expr n) (zbu (L2++[(t9,xn9,xk9)])) (rest P q9))/\(b9=true->C=none)):=by
            refine zH ⟨fun e=>?_,fun e=>?_⟩
            ·rw[e] at hg9
             refine ⟨?_,?_⟩
             ·have h1:=zfw (zau n) hg9
              rw[zaf,zaf] at h1;omega
             ·rw[HGO.out.2.2,yag (zau n) (by rw[<-zj9];exact HB2.out) (by rw[zab];exact hg9),zf3];rfl
            ·rw[e] at hg9
             rw[HGO.out.2.2,zzj (by rw[<-zj9];exact HB2.out) (by rw[zab];exact hg9)]
           clear h9 ht9 hg9 hnode9 KM;go_wp2_with (at_builtin;go_must (refine wpList_append_own_at _ rfl _ _ 23 rfl (w.heap.size+1) 25 i0 (.agg #[.int .i64 0,.string ByteArray.empty,.int .i64 0,.slice none 0 0,.slice none 0 0]) 5 80 Tryz.underlying23 hi hz0 hz1 hz2 rfl (by decide) _ L2.length (ziy L2) rfl (HO9.out.below ((zB _ _).alloc (zL _) _)).own ⟨w9.heap.size,0,none⟩ 1 1 (ziy [(t9,xn9,xk9)]) rfl rfl ?c1 ?c2 ?c3 ?c4 ?c5 ?_))
           case c1=>exact zm1 w9 (t9,xn9,xk9) _
           case c2=>exact zo6 (w:=w9) (L:=[(t9,xn9,xk9)]) (fun y hy=>by rw[List.mem_singleton.1 hy];exact HNODE.out)
           case c3=>unfold maxLen;omega
           case c4=>omega
           case c5=>simp;omega
           intro v10 w10 hown hgr hnn hat;have HO10:Hid (Out (w.heap.size+1) w10 (L2++[(t9,xn9,xk9)]) v10):=zH (HO9.out.app (l1:=w7.heap.size) HNODE.out hg7 HBL9.out hown hgr hat hnn);have hlow:=zdy (base:=w.heap.size+1) hg9' HO9.out.own hgr;have HPS10:=zH (HPS9.out.low hlow HLO1.out);have HT10:=zH (HT9.out.low (hlow.mono (Nat.le_succ _)));have HZ10:=zH (HZ9.out.low hlow (Nat.lt_succ_self _))
           clear hown hgr hnn hat hlow;go_wp2_with fail
           go_roundw
           case rel=>
            have h4:=HGO.out.2.1;refine ⟨L2++[(t9,xn9,xk9)],q9,b9,by simp;omega,HPS10.out,HT10.out,HZ10.out,HO10.out,fun e=>?_,HQ9.out.2⟩
            obtain ⟨h1,h2⟩:=HQ9.out.1 e;have h3:=HGO.out.1;exact ⟨by omega,by simp;omega,h2⟩
           case measure=>
            rw[hlf.out];cases b9 with
            | true=>have:=HPS10.out.zhh N;rw[HPB.out] at this;omega
            | false=>have h2:=HPS10.out.ze5 N;rw[HPB.out] at h2;have h3:=(HQ9.out.1 rfl).1;omega
theorem zpp {n:Nat} (hx:XC n):XC (n+1):=fun _ _ _ h hn=>z2v hx h (Nat.le_of_lt_succ hn)
theorem zlv:∀ n,XC n
 | 0=>fun _ _ _ _ hn=>absurd hn (Nat.not_lt_zero _)
 | n+1=>zpp (zlv n)
end Parser
end Go.Proofs.YtlmhgeanknhcfaaGreatDoor
