/-
  ParBlock ParPrim
-/
import Derived.Test.YtbigfeblomfflaaGreatDoorB37
set_option maxHeartbeats 8000000
set_option maxRecDepth 10000
namespace Go.Proofs.YtbigfeblomfflaaGreatDoor
namespace ParI
open Go.RowKit
open Strs Tree Gram Placed
open Go.Proofs.YtbigfeblomfflaaGreatDoor.Parser
def blockB (ex:X) (r:R):Option (E×R):=
 match pars r with
 | none=>none
 | some (ps,r1)=>
  match names r1 with
  | none=>none
  | some (ts,r2)=>
   match stLoop ex [] r2 with
   | none=>none
   | some (body,r3)=>some (eBlock ps ts body,r3)
theorem block_B (ex:X) (r:R):block ex r=match blockB ex r with|none=>none|some (e,r3)=>if mk cRight r3 then some (e,r3.tail) else none:=by
 unfold block blockB pars;cases parLoop [] r with
 | none=>rfl
 | some y=>
  obtain ⟨ps,r1⟩:=y;simp only;by_cases h0:ps.length=0
  ·rw[if_pos (.inl h0),if_pos h0,if_pos h0]
   simp only;cases names r1 with
   | none=>rfl
   | some z=>
    obtain ⟨ts,r2⟩:=z;simp only;cases stLoop ex [] r2 with
    | none=>rfl
    | some u=>rfl
  ·rw[if_neg h0,if_neg h0]
   cases hb:mk cBar r1 with
   | false=>rw[if_neg (by simp[h0])];rfl
   | true=>
    rw[if_pos (.inr rfl)];simp only[if_true];cases names r1.tail with
    | none=>rfl
    | some z=>
     obtain ⟨ts,r2⟩:=z;simp only;cases stLoop ex [] r2 with
     | none=>rfl
     | some u=>rfl
theorem pars_le {r:R} {ps:List ByteArray} {r1:R} (h:pars r=some (ps,r1)):r1.length<=r.length:=by
 unfold pars at h
 split at h
 ·cases h
 ·rename_i ps' r2 hp
  have h1:=parLoop_le _ _ _ _ hp
  split at h
  ·cases h;exact h1
  ·split at h
   ·have:=tail_le r2
    cases h;omega
   ·cases h
theorem blockB_none1 {ex:X} {r:R} (h:pars r=none):blockB ex r=none:=by unfold blockB;rw[h]
theorem blockB_none2 {ex:X} {r r1:R} {ps:List ByteArray} (h:pars r=some (ps,r1)) (h2:names r1=none):blockB ex r=none:=by unfold blockB;rw[h];simp only;rw[h2]
theorem blockB_none3 {ex:X} {r r1 r2:R} {ps ts:List ByteArray} (h:pars r=some (ps,r1)) (h2:names r1=some (ts,r2)) (h3:stLoop ex [] r2=none):blockB ex r=none:=by unfold blockB;rw[h];simp only;rw[h2];simp only;rw[h3]
theorem blockB_some {ex:X} {r r1 r2 r3:R} {ps ts:List ByteArray} {body:List E} (h:pars r=some (ps,r1)) (h2:names r1=some (ts,r2)) (h3:stLoop ex [] r2=some (body,r3)):blockB ex r=some (eBlock ps ts body,r3):=by unfold blockB;rw[h];simp only;rw[h2];simp only;rw[h3]
theorem five_set {B:Nat} {a b c d e:Value} {w:World} (h:Five B a b c d e w) (v:Value):Five B a b c v e (w.setCell ⟨B,3,none⟩ v):=by
 obtain ⟨hs,z0,z1,z2,z3,z4,fz⟩:=h;refine ⟨by simpa using hs,?_,?_,?_,?_,?_,fun o=>?_⟩
 all_goals go_simp
theorem strs_row {w:World} {base g c:Nat} {ts:List ByteArray} (h:w.ownsRow base 9 1 (.slice (some ⟨g,0,none⟩) ts.length c) ts.length (ts.map Value.string)):∀ (j:Nat) (u:Value),(ts.map Value.string)[j]?=some u->w.cell? ((⟨g,0,none⟩:Addr).add j)=some u:=by intro j u hj;have hl:=(List.getElem?_eq_some_iff.1 hj).1;rw[List.length_map] at hl;rw[add_plain,Nat.zero_add,h.cellAt j (by omega:j<ts.length*1)];exact hj
theorem set_heap (w:World) (B o:Nat) (v:Value) {x:Nat} (h:x≠B):(w.setCell ⟨B,o,none⟩ v).heap[x]?=w.heap[x]?:=Below.heap_setCell _ _ _ _ (fun e=>h e)
theorem wf_small (n:Nat) (h:n<=1000000):(Lit.int .i64 (n:Nat)).wf=true:=by
 have e1:IntKind.min .i64 = -9223372036854775808:=by decide
 have e2:IntKind.max .i64=9223372036854775807:=by decide
 rw[Lit.wf_int_iff,e1,e2];omega
theorem block_any {n:Nat} (hx:XI n) {P:Cst} {p:Nat} {w:World} (h:IS P p w) (hn:(rest P p).length<n):
  Calls Tryz.prog 165 #[.pointer (some ⟨P.pb,0,none⟩)] w (IBack P w (blockB (expr n) (rest P p))):=by
 obtain ⟨i0,hi,hz0,hz1,hz2⟩:=info_parts infoS;have hb0:Below w.heap.size w (w.alloc (.cells #[.int .i64 0,.string ⟨#[]⟩,.int .i64 0,.slice none 0 0,.slice none 0 0] 27)):=(zB _ _).alloc (zL _) _;have KP:=zH (parameters_any (h.below hb0));have KV:=fun (w1:World) (q:Nat) (h1:IS P q w1)=>zH (variables_any h1)
 have KS:=fun (w1:World) (q:Nat) (h1:IS P q w1) (hl:(rest P q).length<n)=>zH (statements_any hx h1 hl)
 have HT:=zH ((Turn.refl P w).low hb0);have HZ:=zH (zero_new w 27);have hw0:(w.alloc (.cells #[.int .i64 0,.string ⟨#[]⟩,.int .i64 0,.slice none 0 0,.slice none 0 0] 27)).heap.size=w.heap.size+1:=by simp
 have HW0:=zH hw0;have HLO:=zH h.lo;have hpbl:=h.size;have HLEN:=zH hn;have HF:=zH h.fit.fit;clear h hn hx hb0 hw0;generalize hG:blockB (expr n) (rest P p)=G;have HG:=zH hG;clear hG;generalize hpb:P.pb=pb at *;have HPB:=zH hpb;clear hpb;go_enter Tryz.func165,Tryz.ntmps165;go_wp2_with fail
 refine KP.out.mono ?_;rintro e w3 (⟨v3,ps,q3,rfl,ho3,hl3,hx3,h3,ht3,hg3⟩|⟨⟨v,rfl⟩,ht3,hg3⟩)
 case inr=>
  have HG2:Hid (G=none):=zH (by rw[<-HG.out,blockB_none1 hg3]);have HT3:=zH (HT.out.trans ht3);clear ht3 hg3 KP;go_wp2_with fail
  exact ⟨rfl,.inr ⟨⟨_,rfl⟩,HT3.out,HG2.out⟩⟩
 obtain ⟨na,nc,rfl⟩:=Kit.zax ho3;rw[HW0.out] at ho3;have hg3s:=ht3.size;rw[HW0.out] at hg3s;have hbF:Below w3.heap.size w3 (w3.alloc (.cells #[.int .i64 8,.string ⟨#[]⟩,.int .i64 (ps.length:Nat),.slice none 0 0,.slice none 0 0] 27)):=(zB _ _).alloc (zL _) _;have HO3:=zH (own_keep ho3 hbF);have HB3:=zH (fun b (hb:b∈blk (.slice na ps.length nc))=>own_blk ho3 b hb)
 have hps3:=h3.below hbF;have HPS3:=zH hps3;have HT3:=zH ((HT.out.trans ht3).low (hbF.mono (by omega)));have HZ3:=zH ((HZ.out.turn ht3 (by rw[HPB.out];omega)).step hbF);have HF3:=zH (five_new w3 (.int .i64 8) (.string ⟨#[]⟩) (.int .i64 (ps.length:Nat)) (.slice none 0 0) (.slice none 0 0) 27);have HG3:=zH hg3;have HX3:=zH hx3;have HQ3:=zH (pars_le hg3);have KV3:=KV _ q3 hps3
 have hw3:(w3.alloc (.cells #[.int .i64 8,.string ⟨#[]⟩,.int .i64 (ps.length:Nat),.slice none 0 0,.slice none 0 0] 27)).heap.size=w3.heap.size+1:=by simp
 have HW3:=zH hw3;clear ho3 h3 ht3 hg3 hx3 hbF hps3 KV KP hw3;generalize hpn:ps.length=np at *;have HPN:=zH hpn;clear hpn;go_wp2_with fail
 refine KV3.out.mono ?_;rintro e w4 (⟨v4,ts,q4,rfl,ho4,hl4,hx4,h4,ht4,hg4⟩|⟨⟨v,rfl⟩,ht4,hg4⟩)
 case inr=>
  have HG2:Hid (G=none):=zH (by rw[<-HG.out,blockB_none2 HG3.out hg4]);have HT4:=zH (HT3.out.trans ht4);clear ht4 hg4 KV3;go_wp2_with fail
  exact ⟨rfl,.inr ⟨⟨_,rfl⟩,HT4.out,HG2.out⟩⟩
 have hs4:=ht4.size;rw[HW3.out] at hs4 ho4;have HPS4:=zH h4;have HT4:=zH (HT3.out.trans ht4);have HZ4:=zH (HZ3.out.turn ht4 (by rw[HPB.out];omega));have HF4:=zH (HF3.out.turn ht4 (by rw[HPB.out];omega));have HO4:=zH (own_turn HO3.out ht4 (by rw[HPB.out];omega));have HOV:=zH ho4;have HG4:=zH hg4;have HX4:=zH hx4;have HQ4:=zH (names_le hg4);clear h4 ht4 hg4 hx4 KV3
 have ho4':=HOV.out;obtain ⟨-,⟨rfl,hz⟩|⟨g4,c4,cur4,rfl,-,-,hc4,hm4,-,-⟩⟩:=ho4'
 ·have hts:ts=[]:=List.eq_nil_of_length_eq_zero hz
  have HO5:Hid (w4.ownsRow (w.heap.size+1) 9 1 (.slice na np nc) (ps++ts).length ((ps++ts).map Value.string)):=zH (by rw[hts,List.append_nil,HPN.out];exact HO4.out);have HB5:Hid (Below (w.heap.size+1) w4 w4):=zH (zB _ _);have HF5:=zH HF4.out
  have HK5:Hid (∀ b,b∈blk (.slice na np nc)->b≠w3.heap.size/\b<w4.heap.size):=zH fun b hb=>by have:=HB3.out b hb;exact ⟨by omega,by omega⟩
  clear hz hts;have hs5:w4.heap.size<=w4.heap.size:=HB5.out.size;have hbs:Below (w.heap.size+1) w4 (w4.setCell ⟨w3.heap.size,3,none⟩ (.slice na np nc)):=(zB _ _).setCell hg3s _;have hbt:=HB5.out.trans hbs;have HPS6:=zH (HPS4.out.low hbt (HLO.out.le (Nat.le_succ _)));have HT6:=zH (HT4.out.low (hbt.mono (Nat.le_succ _)));have HZ6:=zH (HZ4.out.low hbt (Nat.lt_succ_self _));have HF6:=zH (five_set (HF5.out) (.slice na np nc))
  have HO6:=zH (own_frame HO5.out fun b hb=>set_heap w4 w3.heap.size 3 (.slice na np nc) (HK5.out b hb).1)
  have hws:(w4.setCell ⟨w3.heap.size,3,none⟩ (.slice na np nc)).heap.size=w4.heap.size:=by simp[World.setCell]
  have KS6:=KS _ q4 HPS6.out (by have h1:=HLEN.out;have h2:=HQ3.out;have h3:=HQ4.out;omega)
  obtain ⟨hs5',f0,f1,f2,f3,f4,ffz⟩:=HF5.out;clear hbs hbt;go_wp2_with (at_builtin;go_must (refine wpList_append_own_none rfl _ _ 24 rfl (w.heap.size+1) 9 i0 1 Tryz.underlying24 hi _ np (ps.map Value.string) rfl HO4.out rfl ?_))
  refine KS6.out.mono ?_;rintro e w7 (⟨v7,ks,q7,rfl,hr7,hl7,h7,ht7,hg7⟩|⟨⟨v,rfl⟩,ht7,hg7⟩)
  case inr=>
   have HG2:Hid (G=none):=zH (by rw[<-HG.out,blockB_none3 HG3.out HG4.out hg7]);have HT7:=zH (HT6.out.trans ht7);clear ht7 hg7 KS6;go_wp2_with fail
   exact ⟨rfl,.inr ⟨⟨_,rfl⟩,HT7.out,HG2.out⟩⟩
  obtain ⟨ka,kc,rfl⟩:=hr7.form;rw[hws] at hr7;have hs7:=ht7.size;rw[hws] at hs7;have HPS7:=zH h7;have HT7:=zH (HT6.out.trans ht7);have HZ7:=zH (HZ6.out.turn ht7 (by rw[HPB.out];omega));have HF7:=zH (HF6.out.turn ht7 (by rw[HPB.out];omega));have HO7:=zH (own_turn HO6.out ht7 (by rw[HPB.out];omega));have HG2:Hid (G=some (eBlock ps ts (toEs ks),rest P q7)):=zH (by rw[<-HG.out,blockB_some HG3.out HG4.out hg7])
  have HTREE:Hid (Own (w.heap.size+1) w7 (.mk 8 ⟨#[]⟩ (np:Nat) (ps++ts) (.slice na np nc) (.slice ka ks.length kc) ks)):=zH (own_node (by rfl) (wf_small np (by omega)) (Nat.zero_le _) (fun x hx=>by
   rcases List.mem_append.1 hx with hx|hx
   ·exact HX3.out x hx
   ·exact HX4.out x hx) HO7.out (own_base hr7.own fun b hb=>by have:=(own_blk hr7.own b hb).1;omega) (hr7.kids.mono (by omega)) (fun b hb=>by
    have h1:=(HK5.out b hb).2;refine ⟨fun hb2=>?_,fun hb2=>?_⟩
    ·have:=(own_blk hr7.own b hb2).1;omega
    ·have:=hr7.kids.lo b hb2;omega) hr7.apart)
  have HNB:Hid (w3.heap.size∉foot (T.mk 8 ⟨#[]⟩ (np:Nat) (ps++ts) (.slice na np nc) (.slice ka ks.length kc) ks)):=zH (by
   rw[foot];intro hm;rcases List.mem_append.1 hm with hm|hm
   ·exact (HK5.out _ hm).1 rfl
   rcases List.mem_append.1 hm with hm|hm
   ·have:=(own_blk hr7.own _ hm).1;omega
   ·have:=hr7.kids.lo _ hm;omega)
  obtain ⟨hs8,f0,f1,f2,f3,f4,ffz⟩:=HF7.out;obtain ⟨hszz,y0,y1,y2,y3,y4,yfz⟩:=HZ7.out;clear h7 ht7 hg7 hr7 KS6 hws;go_wp2_with fail
  have hb8:Below w.heap.size w7 (w7.setCell ⟨w3.heap.size,4,none⟩ (.slice ka ks.length kc)):=(zB _ _).setCell (by show w.heap.size<=w3.heap.size;omega) _;have hb9:=zah (B:=w.heap.size) hb8 (zL _) (.int .i64 8) (.string ⟨#[]⟩) (.int .i64 (np:Nat)) (.slice na np nc) (.slice ka ks.length kc);refine bodyPost_ret (v:=.agg #[.int .i64 8,.string ⟨#[]⟩,.int .i64 (np:Nat),.slice na np nc,.slice ka ks.length kc]) (by simp[results,Tryz.results165,go_sem, *]) rfl ?_
  refine .inl ⟨.mk 8 ⟨#[]⟩ (np:Nat) (ps++ts) (.slice na np nc) (.slice ka ks.length kc) ks,q7,rfl,(HTREE.out.frame fun b hb=>?_).mono (Nat.le_succ _),HPS7.out.low hb9 HLO.out,HT7.out.low hb9,?_⟩
  ·exact (put5_heap _ w.heap.size _ _ _ _ _ (by have:=HTREE.out.lo b hb;omega)).trans (set_heap w7 w3.heap.size 4 _ (fun e=>HNB.out (e▸hb)))
  ·rw[HG2.out,toE,eBlock,HPN.out]
   rfl
 ·go_wp2_with (at_builtin;go_must (refine wpList_append_own_at _ rfl _ _ 24 rfl (w.heap.size+1) 9 i0 (.string ByteArray.empty) 1 16 Tryz.underlying24 hi hz0 hz1 hz2 rfl (by decide) _ np (ps.map Value.string) rfl HO4.out ⟨g4,0,none⟩ ts.length c4 (ts.map Value.string) rfl ?c0 ?c1 ?c2 ?c3 ?c4 ?c5 ?_))
  case c0=>simp
  case c1=>exact strs_row HOV.out
  case c2=>exact strs_one _
  case c3=>unfold maxLen;omega
  case c4=>omega
  case c5=>omega
  intro v5 w5 hown hgr _ hat;have hlen:(ps++ts).length=np+ts.length:=by rw[List.length_append,HPN.out]
  have HO5':Hid (w5.ownsRow (w.heap.size+1) 9 1 v5 (ps++ts).length ((ps++ts).map Value.string)):=zH (by rw[hlen,List.map_append];exact hown);have HB5:Hid (Below (w.heap.size+1) w4 w5):=zH ((zB _ _).grown hgr (by omega) (fun k hk=>(HO4.out.lt k hk).1))
  have HF5:=zH (HF4.out.same hgr.size (hgr.block _ (by omega) (by intro e;have:=HB3.out w3.heap.size (by unfold blk;rw[<-e];simp);omega)))
  have HK5':Hid (∀ b,b∈blk v5->b≠w3.heap.size/\b<w5.heap.size):=zH fun b hb=>by
   refine ⟨?_,(own_blk hown b hb).2⟩;unfold blk at hb;rcases hat with e|e
   ·rw[e] at hb
    have:=HB3.out b hb;omega
   ·rw[e] at hb
    simp at hb;omega
  obtain ⟨a5,c5,hv5⟩:=Kit.zax HO5'.out;rw[hlen] at hv5;subst hv5;have HO5:=zH HO5'.out;have HK5:=zH HK5'.out;clear hown hgr hat HO5' HK5' hlen;have hs5:w4.heap.size<=w5.heap.size:=HB5.out.size;have hbs:Below (w.heap.size+1) w5 (w5.setCell ⟨w3.heap.size,3,none⟩ (.slice a5 (np+ts.length) c5)):=(zB _ _).setCell hg3s _;have hbt:=HB5.out.trans hbs;have HPS6:=zH (HPS4.out.low hbt (HLO.out.le (Nat.le_succ _)))
  have HT6:=zH (HT4.out.low (hbt.mono (Nat.le_succ _)));have HZ6:=zH (HZ4.out.low hbt (Nat.lt_succ_self _));have HF6:=zH (five_set (HF5.out) (.slice a5 (np+ts.length) c5));have HO6:=zH (own_frame HO5.out fun b hb=>set_heap w5 w3.heap.size 3 (.slice a5 (np+ts.length) c5) (HK5.out b hb).1)
  have hws:(w5.setCell ⟨w3.heap.size,3,none⟩ (.slice a5 (np+ts.length) c5)).heap.size=w5.heap.size:=by simp[World.setCell]
  have KS6:=KS _ q4 HPS6.out (by have h1:=HLEN.out;have h2:=HQ3.out;have h3:=HQ4.out;omega)
  obtain ⟨hs5',f0,f1,f2,f3,f4,ffz⟩:=HF5.out;clear hbs hbt;go_wp2_with fail
  refine KS6.out.mono ?_;rintro e w7 (⟨v7,ks,q7,rfl,hr7,hl7,h7,ht7,hg7⟩|⟨⟨v,rfl⟩,ht7,hg7⟩)
  case inr=>
   have HG2:Hid (G=none):=zH (by rw[<-HG.out,blockB_none3 HG3.out HG4.out hg7]);have HT7:=zH (HT6.out.trans ht7);clear ht7 hg7 KS6;go_wp2_with fail
   exact ⟨rfl,.inr ⟨⟨_,rfl⟩,HT7.out,HG2.out⟩⟩
  obtain ⟨ka,kc,rfl⟩:=hr7.form;rw[hws] at hr7;have hs7:=ht7.size;rw[hws] at hs7;have HPS7:=zH h7;have HT7:=zH (HT6.out.trans ht7);have HZ7:=zH (HZ6.out.turn ht7 (by rw[HPB.out];omega));have HF7:=zH (HF6.out.turn ht7 (by rw[HPB.out];omega));have HO7:=zH (own_turn HO6.out ht7 (by rw[HPB.out];omega));have HG2:Hid (G=some (eBlock ps ts (toEs ks),rest P q7)):=zH (by rw[<-HG.out,blockB_some HG3.out HG4.out hg7])
  have HTREE:Hid (Own (w.heap.size+1) w7 (.mk 8 ⟨#[]⟩ (np:Nat) (ps++ts) (.slice a5 (np+ts.length) c5) (.slice ka ks.length kc) ks)):=zH (own_node (by rfl) (wf_small np (by omega)) (Nat.zero_le _) (fun x hx=>by
   rcases List.mem_append.1 hx with hx|hx
   ·exact HX3.out x hx
   ·exact HX4.out x hx) HO7.out (own_base hr7.own fun b hb=>by have:=(own_blk hr7.own b hb).1;omega) (hr7.kids.mono (by omega)) (fun b hb=>by
    have h1:=(HK5.out b hb).2;refine ⟨fun hb2=>?_,fun hb2=>?_⟩
    ·have:=(own_blk hr7.own b hb2).1;omega
    ·have:=hr7.kids.lo b hb2;omega) hr7.apart)
  have HNB:Hid (w3.heap.size∉foot (T.mk 8 ⟨#[]⟩ (np:Nat) (ps++ts) (.slice a5 (np+ts.length) c5) (.slice ka ks.length kc) ks)):=zH (by
   rw[foot];intro hm;rcases List.mem_append.1 hm with hm|hm
   ·exact (HK5.out _ hm).1 rfl
   rcases List.mem_append.1 hm with hm|hm
   ·have:=(own_blk hr7.own _ hm).1;omega
   ·have:=hr7.kids.lo _ hm;omega)
  obtain ⟨hs8,f0,f1,f2,f3,f4,ffz⟩:=HF7.out;obtain ⟨hszz,y0,y1,y2,y3,y4,yfz⟩:=HZ7.out;clear h7 ht7 hg7 hr7 KS6 hws;go_wp2_with fail
  have hb8:Below w.heap.size w7 (w7.setCell ⟨w3.heap.size,4,none⟩ (.slice ka ks.length kc)):=(zB _ _).setCell (by show w.heap.size<=w3.heap.size;omega) _;have hb9:=zah (B:=w.heap.size) hb8 (zL _) (.int .i64 8) (.string ⟨#[]⟩) (.int .i64 (np:Nat)) (.slice a5 (np+ts.length) c5) (.slice ka ks.length kc);refine bodyPost_ret (v:=.agg #[.int .i64 8,.string ⟨#[]⟩,.int .i64 (np:Nat),.slice a5 (np+ts.length) c5,.slice ka ks.length kc]) (by simp[results,Tryz.results165,go_sem, *]) rfl ?_
  refine .inl ⟨.mk 8 ⟨#[]⟩ (np:Nat) (ps++ts) (.slice a5 (np+ts.length) c5) (.slice ka ks.length kc) ks,q7,rfl,(HTREE.out.frame fun b hb=>?_).mono (Nat.le_succ _),HPS7.out.low hb9 HLO.out,HT7.out.low hb9,?_⟩
  ·exact (put5_heap _ w.heap.size _ _ _ _ _ (by have:=HTREE.out.lo b hb;omega)).trans (set_heap w7 w3.heap.size 4 _ (fun e=>HNB.out (e▸hb)))
  ·rw[HG2.out,toE,eBlock,HPN.out]
   rfl
end ParI
namespace ParI
open Go.RowKit
open Strs Tree Gram Placed
open Go.Proofs.YtbigfeblomfflaaGreatDoor.Parser
theorem prim_name {ex:X} {r:R} (h:hd 1 r=true):primary ex r=some (eName (txt r),r.tail):=by obtain ⟨t,r',rfl,hk⟩:=hd_some h;rw[primary,if_pos hk];rfl
theorem prim_int {ex:X} {r:R} (h:hd 3 r=true):primary ex r=some (.mk 1 none_ (nxt r).num [] [],r.tail):=by obtain ⟨t,r',rfl,hk⟩:=hd_some h;rw[primary,if_neg (by omega),if_pos hk];rfl
theorem prim_text {ex:X} {r:R} (h:hd 4 r=true):primary ex r=some (.mk 2 (txt r) 0 [] [],r.tail):=by obtain ⟨t,r',rfl,hk⟩:=hd_some h;rw[primary,if_neg (by omega),if_neg (by omega),if_pos hk];rfl
theorem prim_sym {ex:X} {r:R} (h:hd 5 r=true):primary ex r=some (.mk 3 (txt r) 0 [] [],r.tail):=by obtain ⟨t,r',rfl,hk⟩:=hd_some h;rw[primary,if_neg (by omega),if_neg (by omega),if_neg (by omega),if_pos hk];rfl
theorem mk_cons {s:ByteArray} {r:R} (h:mk s r=true):∃ t r',r=t::r'/\t.kind=7/\t.text=s:=by
 cases r with
 | nil=>cases h
 | cons t r=>simp only[mk,Bool.and_eq_true,decide_eq_true_eq] at h;exact ⟨t,r,rfl,h.1,h.2⟩
theorem prim_open {ex:X} {r:R} (h:mk cOpen r=true):primary ex r=match ex r.tail with|none=>none|some (e,r1)=>if mk cClose r1 then some (e,r1.tail) else none:=by obtain ⟨t,r',rfl,h7,hx⟩:=mk_cons h;exact prim_paren h7 hx
theorem prim_left {ex:X} {r:R} (h:mk cLeft r=true):primary ex r=block ex r.tail:=by obtain ⟨t,r',rfl,h7,hx⟩:=mk_cons h;exact prim_block h7 hx
theorem prim_no {ex:X} {r:R} (h1:hd 1 r=false) (h3:hd 3 r=false) (h4:hd 4 r=false) (h5:hd 5 r=false) (ho:mk cOpen r=false) (hl:mk cLeft r=false):primary ex r=none:=by
 cases r with
 | nil=>rfl
 | cons t r=>
  refine prim_else (of_decide_eq_false h1) (of_decide_eq_false h3) (of_decide_eq_false h4) (of_decide_eq_false h5) fun h7=>⟨fun e=>?_,fun e=>?_⟩
  ·simp[mk,h7,e] at ho
  ·simp[mk,h7,e] at hl
theorem nxt_eq {k:Int} {r:R} (h:hd k r=true):(nxt r).kind=k:=by obtain ⟨t,r',rfl,hk⟩:=hd_some h;exact hk
theorem nxt_wf {P:Cst} (h:FitI P) (p:Nat):(Lit.int .i64 (nxt (rest P p)).num).wf=true:=by
 cases hr:rest P p with
 | nil=>rfl
 | cons t r=>exact (h.fine t (List.mem_of_getElem? (rest_cons hr).2.1)).wf.2
theorem primary_any {n:Nat} (hx:XI n) {P:Cst} {p:Nat} {w:World} (h:IS P p w) (hn:(rest P p).length<=n):
  Calls Tryz.prog 110 #[.pointer (some ⟨P.pb,0,none⟩)] w (IBack P w (primary (expr n) (rest P p))):=by
 have hb0:Below w.heap.size w (w.alloc (.cells #[.int .i64 0,.string ⟨#[]⟩,.int .i64 0,.slice none 0 0,.slice none 0 0] 27)):=(zB _ _).alloc (zL _) _;have h1:=h.below hb0;have KN:=zH (next_any h1);have hw0:(w.alloc (.cells #[.int .i64 0,.string ⟨#[]⟩,.int .i64 0,.slice none 0 0,.slice none 0 0] 27)).heap.size=w.heap.size+1:=by simp
 have H0:=zH (fun (w1:World) (hb:Below (w.alloc (.cells #[.int .i64 0,.string ⟨#[]⟩,.int .i64 0,.slice none 0 0,.slice none 0 0] 27)).heap.size (w.alloc (.cells #[.int .i64 0,.string ⟨#[]⟩,.int .i64 0,.slice none 0 0,.slice none 0 0] 27)) w1) (o:Obj)=>
  have hb2:Below w.heap.size w w1:=hb0.trans (hb.mono (by omega));have hbo:Below w1.heap.size w1 (w1.alloc o):=(zB _ _).alloc (zL _) o;show IS P p (w1.alloc o)/\Turn P w (w1.alloc o)/\Zero w.heap.size (w1.alloc o)/\w.heap.size<w1.heap.size from
  ⟨(h1.below hb).below hbo,((Turn.refl P w).low hb2).low (hbo.mono hb2.size),((zero_new w 27).step hb).step hbo,by have:=hb.size;omega⟩)
 have KT:=fun (w1:World) (k:Int) (h1:IS P p w1) (hb:hd k (rest P p)=true)=>zH (take_yes h1 hb)
 have KS1:=fun (w1:World) (q:Nat) (s:ByteArray) (h1:IS P q w1) (hb:mk s (rest P q)=true)=>zH (skip_yes h1 hb)
 have KS0:=fun (w1:World) (q:Nat) (s:ByteArray) (h1:IS P q w1) (hb:mk s (rest P q)=false)=>zH (skip_no h1 hb)
 have KN1:=fun (w1:World) (q:Nat) (s:ByteArray) (h1:IS P q w1) (hb:mk s (rest P q)=true)=>zH (need_yes h1 hb)
 have KN0:=fun (w1:World) (q:Nat) (s:ByteArray) (h1:IS P q w1) (hb:mk s (rest P q)=false)=>zH (need_no h1 hb)
 have KX:=fun (w1:World) (q:Nat) (h1:IS P q w1) (hl:(rest P q).length<n)=>zH (hx P q w1 h1 hl)
 have KB:=fun (w1:World) (q:Nat) (h1:IS P q w1) (hl:(rest P q).length<n)=>zH (block_any hx h1 hl)
 have HLO:=zH h.lo;have hpbl:=h.size;have HLEN:=zH hn;have HFT:=zH h.fit.fit;have HFI:=zH h.fit;clear h h1 hn hx hb0 hw0;generalize hG:primary (expr n) (rest P p)=G;have HG:=zH hG;clear hG;generalize hpb:P.pb=pb at *;have HPB:=zH hpb;clear hpb;have HWF:Hid ((Lit.int .i64 (nxt (rest P p)).num).wf=true):=zH (nxt_wf HFI.out p);cases h1:hd 1 (rest P p) with
 | true=>
  have e1:=nxt_eq h1;have HG2:Hid (G=some (eName (txt (rest P p)),rest P (p+1))):=zH (by rw[<-HG.out,prim_name h1,zak]);have H1:=zH h1;have htx:=text_le (p:=p) HFT.out;clear h1;generalize nxt (rest P p)=t at *;obtain ⟨tk,tt,tn⟩:=t;simp only at e1 HG2;subst e1;generalize txt (rest P p)=x at *;go_enter Tryz.func110,Tryz.ntmps110;go_wp2_with fail
  refine KN.out.mono ?_;rintro e w1 ⟨rfl,hb1⟩;obtain ⟨hps,htr,hz,hlt⟩:=H0.out w1 hb1 (.cells #[.int .i64 1,.string tt,.int .i64 tn] 82);have KT1:=KT _ 1 hps H1.out;have HTR:=zH htr;have HZ:=zH hz;have c2:(w1.alloc (.cells #[.int .i64 1,.string tt,.int .i64 tn] 82)).cell? ⟨w1.heap.size,2,none⟩=some (.int .i64 tn):=by go_simp
  have HC2:=zH c2;clear hps htr hz hb1 KN c2;go_wp2_with fail
  refine KT1.out.mono ?_;rintro e w3 ⟨rfl,h3,ht3⟩;have HPS3:=zH h3;have HT3:=zH (HTR.out.trans ht3);have t2:=World.grownBy.cell ht3 HC2.out (by rw[HPB.out];simp;omega);obtain ⟨hszz,y0,y1,y2,y3,y4,yfz⟩:=HZ.out.turn ht3 (by rw[HPB.out];omega);clear h3 ht3 KT1;go_wp2_with fail
  have hb9:=zah (zB w.heap.size w3) (B:=w.heap.size) (zL _) (.int .i64 4) (.string x) (.int .i64 0) (.slice none 0 0) (.slice none 0 0);refine bodyPost_ret (v:=.agg #[.int .i64 4,.string x,.int .i64 0,.slice none 0 0,.slice none 0 0]) (by simp[results,Tryz.results110,go_sem, *]) rfl ?_;exact .inl ⟨.mk 4 x 0 [] (.slice none 0 0) (.slice none 0 0) [],p+1,rfl,own_leaf (by rfl) (by rfl) (by unfold maxLen;omega),HPS3.out.low hb9 HLO.out,HT3.out.low hb9,HG2.out⟩
 | false=>
 cases h3:hd 3 (rest P p) with
 | true=>
  have e1:=nxt_eq h3;have HG2:Hid (G=some (.mk 1 none_ (nxt (rest P p)).num [] [],rest P (p+1))):=zH (by rw[<-HG.out,prim_int h3,zak]);have H1:=zH h3;have htx:=text_le (p:=p) HFT.out;clear h3;generalize nxt (rest P p)=t at *;obtain ⟨tk,tt,tn⟩:=t;simp only at e1 HG2;subst e1;generalize txt (rest P p)=x at *;go_enter Tryz.func110,Tryz.ntmps110;go_wp2_with fail
  refine KN.out.mono ?_;rintro e w1 ⟨rfl,hb1⟩;obtain ⟨hps,htr,hz,hlt⟩:=H0.out w1 hb1 (.cells #[.int .i64 3,.string tt,.int .i64 tn] 82);have KT1:=KT _ 3 hps H1.out;have HTR:=zH htr;have HZ:=zH hz;have c2:(w1.alloc (.cells #[.int .i64 3,.string tt,.int .i64 tn] 82)).cell? ⟨w1.heap.size,2,none⟩=some (.int .i64 tn):=by go_simp
  have HC2:=zH c2;clear hps htr hz hb1 KN c2;go_wp2_with fail
  refine KT1.out.mono ?_;rintro e w3 ⟨rfl,h3,ht3⟩;have HPS3:=zH h3;have HT3:=zH (HTR.out.trans ht3);have t2:=World.grownBy.cell ht3 HC2.out (by rw[HPB.out];simp;omega);obtain ⟨hszz,y0,y1,y2,y3,y4,yfz⟩:=HZ.out.turn ht3 (by rw[HPB.out];omega);clear h3 ht3 KT1;go_wp2_with fail
  have hb9:=zah (zB w.heap.size w3) (B:=w.heap.size) (zL _) (.int .i64 1) (.string ⟨#[]⟩) (.int .i64 tn) (.slice none 0 0) (.slice none 0 0);refine bodyPost_ret (v:=.agg #[.int .i64 1,.string ⟨#[]⟩,.int .i64 tn,.slice none 0 0,.slice none 0 0]) (by simp[results,Tryz.results110,go_sem, *]) rfl ?_;exact .inl ⟨.mk 1 ⟨#[]⟩ tn [] (.slice none 0 0) (.slice none 0 0) [],p+1,rfl,own_leaf (by rfl) (HWF.out) (Nat.zero_le _),HPS3.out.low hb9 HLO.out,HT3.out.low hb9,HG2.out⟩
 | false=>
 cases h4:hd 4 (rest P p) with
 | true=>
  have e1:=nxt_eq h4;have HG2:Hid (G=some (.mk 2 (txt (rest P p)) 0 [] [],rest P (p+1))):=zH (by rw[<-HG.out,prim_text h4,zak]);have H1:=zH h4;have htx:=text_le (p:=p) HFT.out;clear h4;generalize nxt (rest P p)=t at *;obtain ⟨tk,tt,tn⟩:=t;simp only at e1 HG2;subst e1;generalize txt (rest P p)=x at *;go_enter Tryz.func110,Tryz.ntmps110;go_wp2_with fail
  refine KN.out.mono ?_;rintro e w1 ⟨rfl,hb1⟩;obtain ⟨hps,htr,hz,hlt⟩:=H0.out w1 hb1 (.cells #[.int .i64 4,.string tt,.int .i64 tn] 82);have KT1:=KT _ 4 hps H1.out;have HTR:=zH htr;have HZ:=zH hz;have c2:(w1.alloc (.cells #[.int .i64 4,.string tt,.int .i64 tn] 82)).cell? ⟨w1.heap.size,2,none⟩=some (.int .i64 tn):=by go_simp
  have HC2:=zH c2;clear hps htr hz hb1 KN c2;go_wp2_with fail
  refine KT1.out.mono ?_;rintro e w3 ⟨rfl,h3,ht3⟩;have HPS3:=zH h3;have HT3:=zH (HTR.out.trans ht3);have t2:=World.grownBy.cell ht3 HC2.out (by rw[HPB.out];simp;omega);obtain ⟨hszz,y0,y1,y2,y3,y4,yfz⟩:=HZ.out.turn ht3 (by rw[HPB.out];omega);clear h3 ht3 KT1;go_wp2_with fail
  have hb9:=zah (zB w.heap.size w3) (B:=w.heap.size) (zL _) (.int .i64 2) (.string x) (.int .i64 0) (.slice none 0 0) (.slice none 0 0);refine bodyPost_ret (v:=.agg #[.int .i64 2,.string x,.int .i64 0,.slice none 0 0,.slice none 0 0]) (by simp[results,Tryz.results110,go_sem, *]) rfl ?_;exact .inl ⟨.mk 2 x 0 [] (.slice none 0 0) (.slice none 0 0) [],p+1,rfl,own_leaf (by rfl) (by rfl) (by unfold maxLen;omega),HPS3.out.low hb9 HLO.out,HT3.out.low hb9,HG2.out⟩
 | false=>
 cases h5:hd 5 (rest P p) with
 | true=>
  have e1:=nxt_eq h5;have HG2:Hid (G=some (.mk 3 (txt (rest P p)) 0 [] [],rest P (p+1))):=zH (by rw[<-HG.out,prim_sym h5,zak]);have H1:=zH h5;have htx:=text_le (p:=p) HFT.out;clear h5;generalize nxt (rest P p)=t at *;obtain ⟨tk,tt,tn⟩:=t;simp only at e1 HG2;subst e1;generalize txt (rest P p)=x at *;go_enter Tryz.func110,Tryz.ntmps110;go_wp2_with fail
  refine KN.out.mono ?_;rintro e w1 ⟨rfl,hb1⟩;obtain ⟨hps,htr,hz,hlt⟩:=H0.out w1 hb1 (.cells #[.int .i64 5,.string tt,.int .i64 tn] 82);have KT1:=KT _ 5 hps H1.out;have HTR:=zH htr;have HZ:=zH hz;have c2:(w1.alloc (.cells #[.int .i64 5,.string tt,.int .i64 tn] 82)).cell? ⟨w1.heap.size,2,none⟩=some (.int .i64 tn):=by go_simp
  have HC2:=zH c2;clear hps htr hz hb1 KN c2;go_wp2_with fail
  refine KT1.out.mono ?_;rintro e w3 ⟨rfl,h3,ht3⟩;have HPS3:=zH h3;have HT3:=zH (HTR.out.trans ht3);have t2:=World.grownBy.cell ht3 HC2.out (by rw[HPB.out];simp;omega);obtain ⟨hszz,y0,y1,y2,y3,y4,yfz⟩:=HZ.out.turn ht3 (by rw[HPB.out];omega);clear h3 ht3 KT1;go_wp2_with fail
  have hb9:=zah (zB w.heap.size w3) (B:=w.heap.size) (zL _) (.int .i64 3) (.string x) (.int .i64 0) (.slice none 0 0) (.slice none 0 0);refine bodyPost_ret (v:=.agg #[.int .i64 3,.string x,.int .i64 0,.slice none 0 0,.slice none 0 0]) (by simp[results,Tryz.results110,go_sem, *]) rfl ?_;exact .inl ⟨.mk 3 x 0 [] (.slice none 0 0) (.slice none 0 0) [],p+1,rfl,own_leaf (by rfl) (by rfl) (by unfold maxLen;omega),HPS3.out.low hb9 HLO.out,HT3.out.low hb9,HG2.out⟩
 | false=>
 clear HWF;have e1:=nxt_no (k:=1) (by decide) h1;have e3:=nxt_no (k:=3) (by decide) h3;have e4:=nxt_no (k:=4) (by decide) h4;have e5:=nxt_no (k:=5) (by decide) h5;have HNO:=zH (fun ho hl=>prim_no (ex:=expr n) h1 h3 h4 h5 ho hl)
 clear h1 h3 h4 h5 KT;generalize nxt (rest P p)=t at *;obtain ⟨tk,tt,tn⟩:=t;simp only at e1 e3 e4 e5;go_enter Tryz.func110,Tryz.ntmps110;go_wp2_with fail
 refine KN.out.mono ?_;rintro e w1 ⟨rfl,hb1⟩;obtain ⟨hps,htr,hz,hlt⟩:=H0.out w1 hb1 (.cells #[.int .i64 tk,.string tt,.int .i64 tn] 82);have HPS1:=zH hps;have HT1:=zH htr;have HZ1:=zH hz;clear hps htr hz hb1 KN H0;cases ho:mk cOpen (rest P p) with
 | true=>
  have HOP:=zH ho;have KS:=KS1 _ p _ HPS1.out ho;have hl1:=tail_lt ho;rw[zak] at hl1;have HL1:Hid ((rest P (p+1)).length<n):=zH (Nat.lt_of_lt_of_le hl1 HLEN.out);clear ho hl1;go_wp2_with fail
  refine KS.out.mono ?_;rintro e w3 ⟨rfl,h3,ht3⟩;have KE:=KX w3 (p+1) h3 HL1.out;have HT3:=zH (HT1.out.trans ht3);have HZ3:=zH (HZ1.out.turn ht3 (by rw[HPB.out];omega));have hg3:=HZ3.out.size;clear h3 ht3 KS;go_wp2_with fail
  refine KE.out.mono ?_;rintro e w4 (⟨t,q4,rfl,ho4,h4,ht4,hg4⟩|⟨⟨v,rfl⟩,ht4,hg4⟩)
  case inr=>
   have HG2:Hid (G=none):=zH (by rw[<-HG.out,prim_open HOP.out,zak,hg4]);have HT4:=zH (HT3.out.trans ht4);clear ht4 hg4 KE;go_wp2_with fail
   exact ⟨rfl,.inr ⟨⟨_,rfl⟩,HT4.out,HG2.out⟩⟩
  have HGO:Hid (G=if mk cClose (rest P q4)=true then some (toE t,(rest P q4).tail) else none):=zH (by rw[<-HG.out,prim_open HOP.out,zak,hg4])
  have hs4:=ht4.size;obtain ⟨fa,fc,fa',fc',hf1,hf2⟩:=good_forms ho4.good;obtain ⟨uk,ut,un,uns,uvn,uvk,uks⟩:=t;simp only[T.vn,T.vk,T.names,T.kids] at hf1 hf2;subst hf1 hf2;have hba:Below w4.heap.size w4 (w4.alloc (.cells #[.int .i64 uk,.string ut,.int .i64 un,.slice fa uns.length fc,.slice fa' uks.length fc'] 27)):=(zB _ _).alloc (zL _) _;have HO4:=zH (ho4.below hba);have HPS4:=zH (h4.below hba)
  have HT4:=zH ((HT3.out.trans ht4).below hba);have HZ4:=zH ((HZ3.out.turn ht4 (by rw[HPB.out];omega)).step hba);have HF4:=zH (five_new w4 (.int .i64 uk) (.string ut) (.int .i64 un) (.slice fa uns.length fc) (.slice fa' uks.length fc') 27);unfold agg;simp only[T.kind,T.text,T.num,T.vn,T.vk];clear h4 ht4 ho4 hg4 hba KE;cases hc:mk cClose (rest P q4) with
  | false=>
   have KC:=KN0 _ q4 _ HPS4.out hc;have HG2:Hid (G=none):=zH (by rw[HGO.out,hc];rfl);clear hc;go_wp2_with fail
   refine KC.out.mono ?_;rintro e w5 ⟨⟨v,rfl⟩,hb5⟩;have HT5:=zH (HT4.out.below hb5);clear hb5;go_wp2_with fail
   exact ⟨rfl,.inr ⟨⟨_,rfl⟩,HT5.out,HG2.out⟩⟩
  | true=>
   have KC:=KN1 _ q4 _ HPS4.out hc;have HG2:Hid (G=some (toE (.mk uk ut un uns (.slice fa uns.length fc) (.slice fa' uks.length fc') uks),rest P (q4+1))):=zH (by rw[HGO.out,hc,zak];rfl);clear hc;go_wp2_with fail
   refine KC.out.mono ?_;rintro e w5 ⟨rfl,h5,ht5⟩;have HPS5:=zH h5;have HT5:=zH (HT4.out.trans ht5);have HO5:=zH (own_turnT HO4.out ht5 (by rw[HPB.out];omega));obtain ⟨hszz,y0,y1,y2,y3,y4,yfz⟩:=HZ4.out.turn ht5 (by rw[HPB.out];omega);obtain ⟨hs5,f0,f1,f2,f3,f4,ffz⟩:=HF4.out.turn ht5 (by rw[HPB.out];omega);clear h5 ht5 KC;go_wp2_with fail
   have hb9:=zah (zB w.heap.size w5) (B:=w.heap.size) (zL _) (.int .i64 uk) (.string ut) (.int .i64 un) (.slice fa uns.length fc) (.slice fa' uks.length fc');refine bodyPost_ret (v:=.agg #[.int .i64 uk,.string ut,.int .i64 un,.slice fa uns.length fc,.slice fa' uks.length fc']) (by simp[results,Tryz.results110,go_sem, *]) rfl ?_;exact .inl ⟨.mk uk ut un uns (.slice fa uns.length fc) (.slice fa' uks.length fc') uks,q4+1,rfl,(Own.put5 HO5.out (B:=w.heap.size) (fun hm=>by have:=HO5.out.lo _ hm;omega) _ _ _ _ _).mono (by omega),HPS5.out.low hb9 HLO.out,HT5.out.low hb9,HG2.out⟩
 | false=>
  have HOP:=zH ho;have KS:=KS0 _ p _ HPS1.out ho;clear ho;go_wp2_with fail
  refine KS.out.mono ?_;rintro e w2 ⟨rfl,hb2⟩;have HPS2:=zH (HPS1.out.below hb2);have HT2:=zH (HT1.out.below hb2);have HZ2:=zH (HZ1.out.step hb2);clear hb2 KS;cases hl:mk cLeft (rest P p) with
  | false=>
   have KC:=KN0 _ p _ HPS2.out hl;have HG2:Hid (G=none):=zH (by rw[<-HG.out,HNO.out HOP.out hl]);clear hl;go_wp2_with fail
   refine KC.out.mono ?_;rintro e w5 ⟨⟨v,rfl⟩,hb5⟩;have HT5:=zH (HT2.out.below hb5);clear hb5;go_wp2_with fail
   exact ⟨rfl,.inr ⟨⟨_,rfl⟩,HT5.out,HG2.out⟩⟩
  | true=>
  have HLF:=zH hl;have KC:=KN1 _ p _ HPS2.out hl;have hl1:=tail_lt hl;rw[zak] at hl1;have HL1:Hid ((rest P (p+1)).length<n):=zH (Nat.lt_of_lt_of_le hl1 HLEN.out);clear hl hl1;go_wp2_with fail
  refine KC.out.mono ?_;rintro e w3 ⟨rfl,h3,ht3⟩;have KE:=KB w3 (p+1) h3 HL1.out;have HT3:=zH (HT2.out.trans ht3);have HZ3:=zH (HZ2.out.turn ht3 (by rw[HPB.out];omega));have hg3:=HZ3.out.size;clear h3 ht3 KC;go_wp2_with fail
  refine KE.out.mono ?_;rintro e w4 (⟨t,q4,rfl,ho4,h4,ht4,hg4⟩|⟨⟨v,rfl⟩,ht4,hg4⟩)
  case inr=>
   have HG2:Hid (G=none):=zH (by rw[<-HG.out,prim_left HLF.out,zak,block_B,hg4]);have HT4:=zH (HT3.out.trans ht4);clear ht4 hg4 KE;go_wp2_with fail
   exact ⟨rfl,.inr ⟨⟨_,rfl⟩,HT4.out,HG2.out⟩⟩
  have HGO:Hid (G=if mk cRight (rest P q4)=true then some (toE t,(rest P q4).tail) else none):=zH (by rw[<-HG.out,prim_left HLF.out,zak,block_B,hg4])
  have hs4:=ht4.size;obtain ⟨fa,fc,fa',fc',hf1,hf2⟩:=good_forms ho4.good;obtain ⟨uk,ut,un,uns,uvn,uvk,uks⟩:=t;simp only[T.vn,T.vk,T.names,T.kids] at hf1 hf2;subst hf1 hf2;have hba:Below w4.heap.size w4 (w4.alloc (.cells #[.int .i64 uk,.string ut,.int .i64 un,.slice fa uns.length fc,.slice fa' uks.length fc'] 27)):=(zB _ _).alloc (zL _) _;have HO4:=zH (ho4.below hba);have HPS4:=zH (h4.below hba)
  have HT4:=zH ((HT3.out.trans ht4).below hba);have HZ4:=zH ((HZ3.out.turn ht4 (by rw[HPB.out];omega)).step hba);have HF4:=zH (five_new w4 (.int .i64 uk) (.string ut) (.int .i64 un) (.slice fa uns.length fc) (.slice fa' uks.length fc') 27);unfold agg;simp only[T.kind,T.text,T.num,T.vn,T.vk];clear h4 ht4 ho4 hg4 hba KE;cases hc:mk cRight (rest P q4) with
  | false=>
   have KC:=KN0 _ q4 _ HPS4.out hc;have HG2:Hid (G=none):=zH (by rw[HGO.out,hc];rfl);clear hc;go_wp2_with fail
   refine KC.out.mono ?_;rintro e w5 ⟨⟨v,rfl⟩,hb5⟩;have HT5:=zH (HT4.out.below hb5);clear hb5;go_wp2_with fail
   exact ⟨rfl,.inr ⟨⟨_,rfl⟩,HT5.out,HG2.out⟩⟩
  | true=>
   have KC:=KN1 _ q4 _ HPS4.out hc;have HG2:Hid (G=some (toE (.mk uk ut un uns (.slice fa uns.length fc) (.slice fa' uks.length fc') uks),rest P (q4+1))):=zH (by rw[HGO.out,hc,zak];rfl);clear hc;go_wp2_with fail
   refine KC.out.mono ?_;rintro e w5 ⟨rfl,h5,ht5⟩;have HPS5:=zH h5;have HT5:=zH (HT4.out.trans ht5);have HO5:=zH (own_turnT HO4.out ht5 (by rw[HPB.out];omega));obtain ⟨hszz,y0,y1,y2,y3,y4,yfz⟩:=HZ4.out.turn ht5 (by rw[HPB.out];omega);obtain ⟨hs5,f0,f1,f2,f3,f4,ffz⟩:=HF4.out.turn ht5 (by rw[HPB.out];omega);clear h5 ht5 KC;go_wp2_with fail
   have hb9:=zah (zB w.heap.size w5) (B:=w.heap.size) (zL _) (.int .i64 uk) (.string ut) (.int .i64 un) (.slice fa uns.length fc) (.slice fa' uks.length fc');refine bodyPost_ret (v:=.agg #[.int .i64 uk,.string ut,.int .i64 un,.slice fa uns.length fc,.slice fa' uks.length fc']) (by simp[results,Tryz.results110,go_sem, *]) rfl ?_;exact .inl ⟨.mk uk ut un uns (.slice fa uns.length fc) (.slice fa' uks.length fc') uks,q4+1,rfl,(Own.put5 HO5.out (B:=w.heap.size) (fun hm=>by have:=HO5.out.lo _ hm;omega) _ _ _ _ _).mono (by omega),HPS5.out.low hb9 HLO.out,HT5.out.low hb9,HG2.out⟩
end ParI
end Go.Proofs.YtbigfeblomfflaaGreatDoor
