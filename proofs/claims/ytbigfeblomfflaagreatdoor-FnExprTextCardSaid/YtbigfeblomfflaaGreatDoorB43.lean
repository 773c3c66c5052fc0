/-
  ParCas ParExp
-/
import Derived.Test.YtbigfeblomfflaaGreatDoorB42
set_option maxHeartbeats 8000000
set_option maxRecDepth 10000
namespace Go.Proofs.YtbigfeblomfflaaGreatDoor
namespace ParI
open Go.RowKit
open Strs Tree Gram Placed
open Go.Proofs.YtbigfeblomfflaaGreatDoor.Parser
theorem cascade_any {n:Nat} (hx:XI n) {P:Cst} {p b0:Nat} {w:World} {s:ByteArray} {vn vk:Value} {t0:T} {kt:List T} (h:IS P p w) (hn:(rest P p).length<=n) (ho:Own b0 w (.mk 6 s 0 [] vn vk (t0::kt))) (hb:P.pb<b0) (hbw:b0<=w.heap.size) (hkt:kt.length<=3300000):
  Calls Tryz.prog 114 #[.pointer (some ⟨P.pb,0,none⟩),agg (.mk 6 s 0 [] vn vk (t0::kt))] w (SBack P b0 w (casOut (casLoop (expr n) [toE t0,eMsg s (toEs kt)] (rest P p)))):=by
 obtain ⟨i0,hi,hz0,hz1,hz2⟩:=info_parts infoE;have KM:=fun (w1:World) (q:Nat) (h1:IS P q w1) (hl:(rest P q).length<=n)=>zH (message_any hx h1 hl)
 have KS1:=fun (w1:World) (q:Nat) (h1:IS P q w1) (hb:mk cSemi (rest P q)=true)=>zH (skip_yes h1 hb)
 have KS0:=fun (w1:World) (q:Nat) (h1:IS P q w1) (hb:mk cSemi (rest P q)=false)=>zH (skip_no h1 hb)
 have hp:=good_iff.1 ho.good;obtain ⟨hk1,hk2,hk3⟩:=ho.kids;obtain ⟨fa,fc,hf1⟩:=Kit.zax hp.names;have hcase:=own_cases hp.kids;simp only[T.vn,T.vk,T.names,T.kids,List.length_nil,List.length_cons] at hf1 hcase hk1 hk2 hk3;rcases hcase with ⟨-,h0⟩|⟨g,c,hf2⟩
 ·omega
 subst hf1 hf2
 have hcap:kt.length+1<=c/\c<=maxLen:=by
  obtain ⟨-,⟨hv,-⟩|⟨g',cap,cur,hv,-,-,h1,h2,-⟩⟩:=hk1
  ·cases hv
  ·cases hv
   exact ⟨h1,h2⟩
 have hcells:=row_cells hk1 rfl;rw[row_cons] at hcells
 have ht0:Own b0 w t0:=by have h1:=hk2.nd;have h2:=hk2.lo;rw[foots] at h1 h2;rw[List.nodup_append] at h1;exact ⟨goods_iff.1 hk2.good t0 (by simp),h1.1,fun b hb=>h2 b (by simp[hb])⟩
 have hkk:Owns b0 w kt:=by have h1:=hk2.nd;have h2:=hk2.lo;rw[foots] at h1 h2;rw[List.nodup_append] at h1;exact ⟨goods_iff.2 fun x hx=>goods_iff.1 hk2.good x (by simp[hx]),h1.2.1,fun b hb=>h2 b (by simp[hb])⟩
 have hdis:∀ b,b∈foot t0->b∉foots kt:=by have h1:=hk2.nd;rw[foots,List.nodup_append] at h1;exact fun b hb hc=>h1.2.2 b hb b hc rfl
 obtain ⟨ua,uc,ua',uc',hu1,hu2⟩:=good_forms ht0.good;obtain ⟨uk,ut,un,uns,uvn,uvk,uks⟩:=t0;simp only[T.vn,T.vk,T.names,T.kids] at hu1 hu2;subst hu1 hu2;have hadd:∀ (o j:Nat),((⟨g,o,none⟩:Addr).add j)=⟨g,o+j,none⟩:=fun o j=>by unfold Addr.add;split<;>simp_all
 have d0:w.cell? ⟨g,0,none⟩=some (.int .i64 uk):=by have:=hcells 0 _ rfl;rwa [hadd] at this
 have d1:w.cell? ⟨g,1,none⟩=some (.string ut):=by have:=hcells 1 _ rfl;rwa [hadd] at this
 have d2:w.cell? ⟨g,2,none⟩=some (.int .i64 un):=by have:=hcells 2 _ rfl;rwa [hadd] at this
 have d3:w.cell? ⟨g,3,none⟩=some (.slice ua uns.length uc):=by have:=hcells 3 _ rfl;rwa [hadd] at this
 have d4:w.cell? ⟨g,4,none⟩=some (.slice ua' uks.length uc'):=by have:=hcells 4 _ rfl;rwa [hadd] at this
 have hrow:∀ (j:Nat) (u:Value),(row kt)[j]?=some u->w.cell? ((⟨g,5,none⟩:Addr).add j)=some u:=fun j u hu=>by
  have h1:=hcells (j+5) u (by
   rw[List.getElem?_append_right (by simp[cells])]
   simpa [cells] using hu)
  rw[hadd] at h1 ⊢;rw[show 5+j=0+(j+5) by omega]
  exact h1
 have hgl:g<w.heap.size:=cell_lt d0
 have hB3:Below w.heap.size w (((w.alloc (.cells #[.int .i64 6,.string s,.int .i64 0,.slice fa 0 fc,.slice (some ⟨g,0,none⟩) (kt.length+1) c] 27)).alloc (.cells #[.int .i64 0,.string ⟨#[]⟩,.int .i64 0,.slice none 0 0,.slice none 0 0] 27)).alloc (.cells #[.int .i64 6,.string s,.int .i64 0,.slice none 0 0,.slice none 0 0] 27)):=
  (((zB _ _).alloc (zL _) _).alloc (by simp) _).alloc (by simp;omega) _
 have hf3:=five_new w (.int .i64 6) (.string s) (.int .i64 0) (.slice fa 0 fc) (.slice (some ⟨g,0,none⟩) (kt.length+1) c) 27;have hz3:=zero_new (w.alloc (.cells #[.int .i64 6,.string s,.int .i64 0,.slice fa 0 fc,.slice (some ⟨g,0,none⟩) (kt.length+1) c] 27)) 27;have hm3:=five_new ((w.alloc (.cells #[.int .i64 6,.string s,.int .i64 0,.slice fa 0 fc,.slice (some ⟨g,0,none⟩) (kt.length+1) c] 27)).alloc (.cells #[.int .i64 0,.string ⟨#[]⟩,.int .i64 0,.slice none 0 0,.slice none 0 0] 27)) (.int .i64 6) (.string s) (.int .i64 0) (.slice none 0 0) (.slice none 0 0) 27
 have hw1:(w.alloc (.cells #[.int .i64 6,.string s,.int .i64 0,.slice fa 0 fc,.slice (some ⟨g,0,none⟩) (kt.length+1) c] 27)).heap.size=w.heap.size+1:=by simp
 have hw2:((w.alloc (.cells #[.int .i64 6,.string s,.int .i64 0,.slice fa 0 fc,.slice (some ⟨g,0,none⟩) (kt.length+1) c] 27)).alloc (.cells #[.int .i64 0,.string ⟨#[]⟩,.int .i64 0,.slice none 0 0,.slice none 0 0] 27)).heap.size=w.heap.size+1+1:=by simp
 rw[hw1] at hz3;rw[hw2] at hm3;have hf3':=(hf3.step ((zB _ _).alloc (zL _) (.cells #[.int .i64 0,.string ⟨#[]⟩,.int .i64 0,.slice none 0 0,.slice none 0 0] 27))).step ((zB _ _).alloc (zL _) (.cells #[.int .i64 6,.string s,.int .i64 0,.slice none 0 0,.slice none 0 0] 27));have hz3':=hz3.step ((zB _ _).alloc (zL _) (.cells #[.int .i64 6,.string s,.int .i64 0,.slice none 0 0,.slice none 0 0] 27))
 clear hf3 hz3 hw1 hw2;obtain ⟨w3,hw3⟩:∃ w3,w3=(((w.alloc (.cells #[.int .i64 6,.string s,.int .i64 0,.slice fa 0 fc,.slice (some ⟨g,0,none⟩) (kt.length+1) c] 27)).alloc (.cells #[.int .i64 0,.string ⟨#[]⟩,.int .i64 0,.slice none 0 0,.slice none 0 0] 27)).alloc (.cells #[.int .i64 6,.string s,.int .i64 0,.slice none 0 0,.slice none 0 0] 27)):=⟨_,rfl⟩;have hs3:w3.heap.size=w.heap.size+3:=by rw[hw3];simp
 rw[<-hw3] at hB3 hf3' hz3' hm3;have HW3:=zH hw3;have HB3:=zH hB3;have HF3:=zH hf3';have HZ3:=zH hz3';have HM3:=zH hm3;have HPS0:=zH h;have HLO:=zH h.lo;have hpbl:=h.size;have hpl:=h.le;have h8:=h.fit.fit.len;have HLEN:=zH hn;have HT0:=zH ht0;have HKK:=zH hkk;have HDIS:=zH hdis;have HTX:=zH hp.text;have HG1:=zH (goods_one hkk.good);have HROW:=zH hrow
 have HD0:=zH d0;have HD1:=zH d1;have HD2:=zH d2;have HD3:=zH d3;have HD4:=zH d4;obtain ⟨hkc,hcm⟩:=hcap;unfold maxLen at hcm;have g4:∀ k,(w3.drewN k).cell? ⟨w.heap.size+1+1,4,none⟩=some (.slice none 0 0):=fun k=>cell_keep (zai w3 k) HM3.out.z4
 have k4:∀ k,(w3.drewN k).cell? ⟨w.heap.size,4,none⟩=some (.slice (some ⟨g,0,none⟩) (kt.length+1) c):=fun k=>cell_keep (zai w3 k) HF3.out.z4
 have HRK:Hid (∀ k (j:Nat) (u:Value),(row kt)[j]?=some u->(w3.drewN k).cell? ((⟨g,5,none⟩:Addr).add j)=some u):=zH (fun k j u hu=>by have h1:=hrow j u hu;rw[hadd] at h1 ⊢;exact cell_keep (hB3.trans ((zai w3 k).mono hB3.size)) h1)
 have f1:=hf3'.z1;have f4:=hf3'.z4;have e4:=hm3.z4;clear h hn ho hx hp hk1 hk2 hk3 hcells ht0 hkk hdis hadd d0 d1 d2 d3 d4 hrow hB3 hf3' hz3' hm3 hw3;generalize hG:casOut (casLoop (expr n) [toE (T.mk uk ut un uns (.slice ua uns.length uc) (.slice ua' uks.length uc') uks),eMsg s (toEs kt)] (rest P p))=G;have HG:=zH hG;clear hG;generalize hpb:P.pb=pb at *;have HPB:=zH hpb;clear hpb;generalize hN:P.toks.length=N at *
 have HN:=zH hN;clear hN;unfold agg;simp only[T.kind,T.text,T.num,T.vn,T.vk];generalize hK:kt.length=K at *;have HK:=zH hK;go_enter Tryz.func114,Tryz.ntmps114
 go_upto_region 2 with fail
 rw[<-HW3.out]
 go_cut [15] from 10 to 16 (fun v wx=>∃ fa' fc',v=.slice fa' K fc'/\wx.ownsRow b0 27 5 (.slice fa' K fc') K (row kt)/\(∀ b,b∈blk (.slice fa' K fc')->b=w3.heap.size)/\Five (w.heap.size+1+1) (.int .i64 6) (.string s) (.int .i64 0) (.slice none 0 0) (.slice fa' K fc') wx/\Five w.heap.size (.int .i64 6) (.string s) (.int .i64 0) (.slice fa 0 fc) (.slice (some ⟨g,0,none⟩) (K+1) c) wx/\Zero (w.heap.size+1) wx/\Below w.heap.size w wx/\w3.heap.size<=wx.heap.size)
 case first=>
  by_cases hc1:c=1
  ·subst hc1
   obtain rfl:K=0:=by omega
   go_region_law (first
    | (
     refine step_append_new (by rfl) _ _ _ (by rfl) b0 27 i0 (.agg #[.int .i64 0,.string ByteArray.empty,.int .i64 0,.slice none 0 0,.slice none 0 0]) 5 80 Tryz.underlying25 hi hz0 hz1 hz2 rfl (by decide) (by rfl)
      _ 0 _ (row kt) (by rfl) (by rw[row_len,HK.out]) (fun j u hu=>by have h1:=(List.getElem?_eq_some_iff.1 hu).1;rw[row_len,HK.out] at h1;omega) HG1.out (by unfold maxLen;omega) (by omega) (show b0<=w3.heap.size by omega) w3.heap.size (by simp) ?_
     intro fa' fc' w4 hown hgrow hat;have hb4:=(zai w3 _).grown hgrow (zL _) (fun k hk=>nomatch hk)
     have HM4:=zH (HM3.out.step hb4);have m4:=HM4.out.z4;have m5:=HM4.out.fz 4))
   all_goals
    have hs5:Below (w.heap.size+1+1) w4 (w4.setCell ⟨w.heap.size+1+1,4,none⟩ (.slice fa' 0 fc')):=(zB _ _).setCell (by show w.heap.size+1+1<=w.heap.size+1+1;omega) _;have hb5:Below w.heap.size w (w4.setCell ⟨w.heap.size+1+1,4,none⟩ (.slice fa' 0 fc')):=(HB3.out.trans (hb4.mono (by omega))).trans (hs5.mono (by omega));have hsz:=hs5.size;have hsz4:=hb4.size;have HF5:=zH ((HF3.out.step hb4).low hs5 (by omega))
    have HZ5:=zH ((HZ3.out.step hb4).low hs5 (by omega));have HM5:=zH (five_set4 HM4.out (.slice fa' 0 fc'));have HOWN5:=zH (own_frame hown fun b hb=>set_heap w4 (w.heap.size+1+1) 4 (.slice fa' 0 fc') (by have:=hat b hb;omega))
    have HB5:=zH hb5;have HSZ5:Hid (w3.heap.size<=(w4.setCell ⟨w.heap.size+1+1,4,none⟩ (.slice fa' 0 fc')).heap.size):=zH (by omega);have HAT:=zH hat;clear hs5 hb5 hsz hsz4 hown hgrow hat hb4 m4 m5 HM4;go_wp2_with fail
    go_meet
    exact ⟨fa',fc',rfl,HOWN5.out,HAT.out,HM5.out,HF5.out,HZ5.out,HB5.out,HSZ5.out⟩
  ·have hk2:(1:Int)<=(K:Int)+1:=by omega
   go_region_law (first
    | (
     refine step_append_new (by rfl) _ _ _ (by rfl) b0 27 i0 (.agg #[.int .i64 0,.string ByteArray.empty,.int .i64 0,.slice none 0 0,.slice none 0 0]) 5 80 Tryz.underlying25 hi hz0 hz1 hz2 rfl (by decide) (by rfl)
      ⟨g,5,none⟩ K (c-1) (row kt) (by rfl) (by rw[row_len,HK.out]) (HRK.out _) HG1.out (by unfold maxLen;omega) (by omega) (show b0<=w3.heap.size by omega) w3.heap.size (by simp) ?_
     intro fa' fc' w4 hown hgrow hat;have hb4:=(zai w3 _).grown hgrow (zL _) (fun k hk=>nomatch hk)
     have HM4:=zH (HM3.out.step hb4);have m4:=HM4.out.z4;have m5:=HM4.out.fz 4))
   all_goals
    have hs5:Below (w.heap.size+1+1) w4 (w4.setCell ⟨w.heap.size+1+1,4,none⟩ (.slice fa' K fc')):=(zB _ _).setCell (by show w.heap.size+1+1<=w.heap.size+1+1;omega) _;have hb5:Below w.heap.size w (w4.setCell ⟨w.heap.size+1+1,4,none⟩ (.slice fa' K fc')):=(HB3.out.trans (hb4.mono (by omega))).trans (hs5.mono (by omega));have hsz:=hs5.size;have hsz4:=hb4.size;have HF5:=zH ((HF3.out.step hb4).low hs5 (by omega))
    have HZ5:=zH ((HZ3.out.step hb4).low hs5 (by omega));have HM5:=zH (five_set4 HM4.out (.slice fa' K fc'));have HOWN5:=zH (own_frame hown fun b hb=>set_heap w4 (w.heap.size+1+1) 4 (.slice fa' K fc') (by have:=hat b hb;omega))
    have HB5:=zH hb5;have HSZ5:Hid (w3.heap.size<=(w4.setCell ⟨w.heap.size+1+1,4,none⟩ (.slice fa' K fc')).heap.size):=zH (by omega);have HAT:=zH hat;clear hs5 hb5 hsz hsz4 hown hgrow hat hb4 m4 m5 HM4;go_wp2_with fail
    go_meet
    exact ⟨fa',fc',rfl,HOWN5.out,HAT.out,HM5.out,HF5.out,HZ5.out,HB5.out,HSZ5.out⟩
 case rest=>
  obtain ⟨fa',fc',rfl,hown,hat,hm4,hf4,hz4,hb4,hs4⟩:=hcut;have hot:=HT0.out.below hb4;have hokk:=HKK.out.below hb4
  have hom:Own b0 wc (T.mk 6 s 0 [] (.slice none 0 0) (.slice fa' K fc') kt):=own_node (by rfl) (by rfl) HTX.out (fun _ h=>nomatch h) (nil_row _ _ _) (by rw[HK.out];exact hown) hokk (fun _ h=>nomatch h) (fun b hb hc=>by have h1:=hat b hb;have h2:=HKK.out.lt b hc;omega)
  have hfm:∀ b,b∈foot (T.mk 6 s 0 [] (.slice none 0 0) (.slice fa' K fc') kt)->b=w3.heap.size\/b∈foots kt:=fun b hb=>by
   rw[foot,blk_nil,List.nil_append] at hb;rcases List.mem_append.1 hb with h1|h1
   ·exact .inl (hat b h1)
   ·exact .inr h1
  have hdj:∀ b,b∈foot (T.mk uk ut un uns (.slice ua uns.length uc) (.slice ua' uks.length uc') uks)->b∉foot (T.mk 6 s 0 [] (.slice none 0 0) (.slice fa' K fc') kt):=fun b hb hc=>by
   rcases hfm b hc with h1|h1
   ·have h2:=HT0.out.lt b hb
    omega
   ·exact HDIS.out b hb h1
  have hlit:=lit2_row hot hom hdj (by omega);simp only[T.kind,T.text,T.num,T.vn,T.vk] at hlit;have hba:Below wc.heap.size wc (wc.alloc (.cells #[.int .i64 uk,.string ut,.int .i64 un,.slice ua uns.length uc,.slice ua' uks.length uc',.int .i64 6,.string s,.int .i64 0,.slice none 0 0,.slice fa' K fc'] 27)).drew:=((zB _ _).alloc (zL _) _).drew;have hb6:Below w.heap.size w (wc.alloc (.cells #[.int .i64 uk,.string ut,.int .i64 un,.slice ua uns.length uc,.slice ua' uks.length uc',.int .i64 6,.string s,.int .i64 0,.slice none 0 0,.slice fa' K fc'] 27)).drew:=hb4.trans (hba.mono (by omega))
  have HLIT:=zH (hlit.below (zB _ _).drew);have HPS6:=zH (HPS0.out.below hb6);have HT6:=zH ((Turn.refl P w).low hb6);have HZ6:=zH (hz4.step hba)
  have HFAR:Hid (∀ b,b∈blk (.slice (some ⟨wc.heap.size,0,none⟩) 2 2)->w.heap.size+1<b):=zH (fun b hb=>by simp[blk,Value.ownBlock] at hb;omega)
  have HFAR2:Hid (∀ b,b∈foots [T.mk uk ut un uns (.slice ua uns.length uc) (.slice ua' uks.length uc') uks,T.mk 6 s 0 [] (.slice none 0 0) (.slice fa' K fc') kt]->b<w.heap.size\/w.heap.size+1<b):=zH (fun b hb=>by
   rw[foots,foots,foots,List.append_nil] at hb;rcases List.mem_append.1 hb with hb|hb
   ·exact .inl (HT0.out.lt b hb)
   ·rcases hfm b hb with h1|h1
    ·omega
    ·exact .inl (HKK.out.lt b h1))
  have e0:=cell_keep hb4 HD0.out;have e1:=cell_keep hb4 HD1.out;have e2:=cell_keep hb4 HD2.out;have e3:=cell_keep hb4 HD3.out;have e4':=cell_keep hb4 HD4.out;have f4':=hf4.z4;obtain ⟨-,m0,m1,m2,m3,m4,-⟩:=hm4;clear hown hat hf4 hz4 hot hokk hom hfm hdj hlit hba hb6 hb4 f1 f4 e4 g4 k4 HRK HROW HD0 HD1 HD2 HD3 HD4
  go_upto_region 3 with fail
  go_cut [6] from 17 to 22 (fun v wx=>∃ ts:List T,Row b0 wx ts v/\ts.length=2/\toEs ts=[toE (T.mk uk ut un uns (.slice ua uns.length uc) (.slice ua' uks.length uc') uks),eMsg s (toEs kt)]/\IS P p wx/\Turn P w wx/\Zero (w.heap.size+1) wx/\(∀ b,b∈blk v->w.heap.size+1<b)/\(∀ b,b∈foots ts->b<w.heap.size\/w.heap.size+1<b))
  case first=>
   go_region
   all_goals
    go_wp2_with fail
    go_meet
    exact ⟨_,HLIT.out,rfl,rfl,HPS6.out,HT6.out,HZ6.out,HFAR.out,HFAR2.out⟩
  case rest=>
   clear HLIT HPS6 HT6 HZ6 HFAR HFAR2 e0 e1 e2 e3 e4' f4' m0 m1 m2 m3 m4;obtain ⟨ts,hrow,hts,htoe,hps,htr,hz,hfar,hfar2⟩:=hcut;have HG0:Hid (G=casOut (casLoop (expr n) (toEs ts) (rest P p))):=zH (by rw[htoe];exact HG.out.symm);have HROW:=zH hrow;have HPSL:=zH hps;have HTRL:=zH htr;have HZL:=zH hz;have HFARL:=zH hfar;have HFARM:=zH hfar2;clear hrow htoe hps htr hz hfar hfar2
   go_wp2_with fail
   go_loopw [6] (fun v wr=>∃ (ts:List T) (q:Nat),p<=q/\ts.length<=q+2/\G=casOut (casLoop (expr n) (toEs ts) (rest P q))/\IS P q wr/\Turn P w wr/\Row b0 wr ts v/\Zero (w.heap.size+1) wr/\(∀ b,b∈blk v->w.heap.size+1<b)/\(∀ b,b∈foots ts->b<w.heap.size\/w.heap.size+1<b)) (fun _ wr=>lft pb wr)
   case atStart=>exact ⟨ts,p,zL _,by omega,HG0.out,HPSL.out,HTRL.out,HROW.out,HZL.out,HFARL.out,HFARM.out⟩
   case round=>
    clear HG0 HROW HPSL HTRL HZL HFARL HFARM hts ts;obtain ⟨ts,q,hpq,hlen,hgo,hps,htr,hrow,hz,hfar,hfar2⟩:=hrel;have HGO:=zH hgo;clear hgo;have HPS:=zH hps;have hqN:=hps.le;rw[HN.out] at hqN;have hpl2:=hps.lft;rw[HPB.out,HN.out] at hpl2;have hpl3:=zH hpl2;have hgw:w.heap.size<=wr.heap.size:=htr.size;clear hps hpl2;have HTR:=zH htr;clear htr;obtain ⟨ra,rc,rfl⟩:=hrow.form;have HR1:=zH hrow;clear hrow
    have HZ1:=zH hz;clear hz;have HFAR:=zH hfar;clear hfar;have HFAR2:=zH hfar2;clear hfar2
    have HQN:Hid ((rest P q).length<=n):=zH (by have h1:=HLEN.out;rw[zar,HN.out] at h1 ⊢;omega)
    cases hh:mk cSemi (rest P q) with
    | false=>
     have KS:=KS0 wr q HPS.out hh;have HG2:Hid (G=some (.mk 7 none_ 0 [] (toEs ts),rest P q)):=zH (by rw[HGO.out,cas_stop hh];rfl);clear hh;go_wp2_with fail
     refine KS.out.mono ?_;rintro e w4 ⟨rfl,hb4⟩;have HPS4:=zH (HPS.out.below hb4);have HT4:=zH (HTR.out.below hb4);have HR4:=zH (HR1.out.below hb4);obtain ⟨hszz,y0,y1,y2,y3,y4,yfz⟩:=HZ1.out.step hb4;clear hb4 KS;go_wp2_with fail
     have hb9:=zah (zB w.heap.size w4) (B:=w.heap.size+1) (Nat.le_succ _) (.int .i64 7) (.string ⟨#[]⟩) (.int .i64 0) (.slice none 0 0) (.slice ra ts.length rc);refine bodyPost_ret (v:=.agg #[.int .i64 7,.string ⟨#[]⟩,.int .i64 0,.slice none 0 0,.slice ra ts.length rc]) (by simp[results,Tryz.results114,go_sem, *]) rfl ?_;have hnode:=HR4.out.node (k:=7) (n:=0) (s:=⟨#[]⟩) (by rfl) (by rfl) (Nat.zero_le _)
     exact .inl ⟨.mk 7 ⟨#[]⟩ 0 [] (.slice none 0 0) (.slice ra ts.length rc) ts,q,rfl,Own.put5 hnode (B:=w.heap.size+1) (fun hm=>by
      rw[foot,blk_nil,List.nil_append] at hm;rcases List.mem_append.1 hm with h1|h1
      ·have h2:=HFAR.out _ h1
       omega
      ·have h2:=HFAR2.out _ h1
       omega) _ _ _ _ _,HPS4.out.low hb9 HLO.out,HT4.out.low hb9,by rw[HG2.out];rfl⟩
    | true=>
     have KS:=KS1 wr q HPS.out hh;have HH:=zH hh;have hq1:=mk_lt' hh;rw[HN.out] at hq1;clear hh;go_wp2_with fail
     refine KS.out.mono ?_;rintro e w3' ⟨rfl,h3,ht3⟩
     have KE:=KM w3' (q+1) h3 (by have h1:=HQN.out;rw[zar,HN.out] at h1 ⊢;omega)
     have HT3:=zH (HTR.out.trans ht3);have HR3:=zH (HR1.out.turn ht3 (by rw[HPB.out];exact hb));have HZ3:=zH (HZ1.out.turn ht3 (by rw[HPB.out];omega));have HRL:=zH (fun b hb=>(HR3.out.lt b hb).2)
     have hg3:w.heap.size<=w3'.heap.size:=HT3.out.size;have hg3':w.heap.size+1<w3'.heap.size:=HZ3.out.size;have hgb:b0<=w3'.heap.size:=by omega
     clear h3 ht3 KS;go_wp2_with fail
     refine KE.out.mono ?_;rintro e w4 (⟨t,q4,rfl,ho4,h4,ht4,hg4⟩|⟨⟨v,rfl⟩,ht4,hg4⟩)
     ·have HO4:=zH ho4
      have HPS4:=zH h4;have HT4:=zH (HT3.out.trans ht4);have HR4:=zH (HR3.out.turn ht4 (by rw[HPB.out];exact hb));have HZ4:=zH (HZ3.out.turn ht4 (by rw[HPB.out];omega));have hg4':w3'.heap.size<=w4.heap.size:=ht4.size;have HE4:=zH hg4
      have HQ4:Hid (q+1<q4/\q4<=N):=zH (by have h1:=message_lt (zat n) hg4;have h2:=h4.le;rw[zar,zar,HN.out] at h1;rw[HN.out] at h2;omega)
      obtain ⟨hq4,hq5⟩:=HQ4.out;unfold agg;clear h4 ht4 hg4 ho4 KE;go_wp2_with (at_builtin;go_must (refine wpList_append_own_at _ rfl _ _ 25 rfl b0 27 i0 (.agg #[.int .i64 0,.string ByteArray.empty,.int .i64 0,.slice none 0 0,.slice none 0 0]) 5 80 Tryz.underlying25 hi hz0 hz1 hz2 rfl (by decide) _ ts.length (row ts) rfl (HR4.out.below ((zB _ _).alloc (zL _) _)).own ⟨w4.heap.size,0,none⟩ 1 1 (row [t]) rfl rfl ?c1 ?c2 ?c3 ?c4 ?c5 ?_))
      case c1=>exact tree_cells w4 t _
      case c2=>exact goods_one ⟨HO4.out.good,trivial⟩
      case c3=>unfold maxLen;omega
      case c4=>omega
      case c5=>simp;omega
      intro v5 w5 hown hgr hnn hat;have HR5:=zH (HR4.out.app HO4.out hgb HRL.out hown hgr hat);have hba:Below (w.heap.size+1+1) w4 (w4.alloc (.cells #[.int .i64 t.kind,.string t.text,.int .i64 t.num,t.vn,t.vk] 27)):=(zB _ _).alloc (by omega) _
      have hlow:Below (w.heap.size+1+1) w4 w5:=hba.grown hgr (by simp;omega) (fun k hk=>by have h1:=HFAR.out k (by unfold blk;rw[hk];simp);omega)
      have hat2:∀ b,b∈blk v5->w.heap.size+1<b:=fun b hb=>by
       unfold blk at hb;rcases hat with e|e
       ·rw[e] at hb
        exact HFAR.out b hb
       ·rw[e] at hb
        simp at hb;omega
      have HFAR5:=zH hat2
      have HFARX:Hid (∀ b,b∈foots (ts++[t])->b<w.heap.size\/w.heap.size+1<b):=zH (fun b hb=>by
       rw[foots_append,foots,foots,List.append_nil] at hb;rcases List.mem_append.1 hb with h1|h1
       ·exact HFAR2.out b h1
       ·have:=HO4.out.lo b h1
        omega)
      have HPS5:=zH (HPS4.out.low (hlow.mono (by omega)) HLO.out);have HT5:=zH (HT4.out.low (hlow.mono (by omega)));have HZ5:=zH (HZ4.out.low hlow (by omega));have HG5:Hid (G=casOut (casLoop (expr n) (toEs (ts++[t])) (rest P q4))):=zH (by rw[HGO.out,cas_go (zat n) HH.out (by rw[zak];exact HE4.out),toEs_append];rfl)
      clear hown hgr hnn hat hat2 hba hlow;go_wp2_with fail
      go_roundw
      case rel=>exact ⟨ts++[t],q4,by omega,by simp;omega,HG5.out,HPS5.out,HT5.out,HR5.out,HZ5.out,HFAR5.out,HFARX.out⟩
      case measure=>have h1:=HPS5.out.lft;rw[HPB.out,HN.out] at h1;rw[h1,hpl3.out];omega
     ·have HG2:Hid (G=none):=zH (by rw[HGO.out,cas_none HH.out (by rw[zak];exact hg4)];rfl)
      have HT4:=zH (HT3.out.trans ht4);clear ht4 hg4 KE;go_wp2_with fail
      exact ⟨rfl,.inr ⟨⟨_,rfl⟩,HT4.out,HG2.out⟩⟩
end ParI
namespace ParI
open Go.RowKit
open Strs Tree Gram Placed
open Go.Proofs.YtbigfeblomfflaaGreatDoor.Parser
theorem msgs {n:Nat} (hx:XI n):MC n 1/\MC n 6/\MC n 2:=⟨message_1 n,message_6 hx,message_2 hx⟩
theorem IS.cell {P:Cst} {p:Nat} {w:World} (h:IS P p w):∃ a c,w.cell? ⟨P.pb,0,none⟩=some (.slice a (P.toks.length-p) c):=by obtain ⟨a,c,h1,-⟩:=h.c0;exact ⟨a,c,h1⟩
def asgOut (x:ByteArray):Option (E×R)->Option (E×R)
 | none=>none
 | some (e,r1)=>some (.mk 5 x 0 [] [e],r1)
theorem expr_asg1 {ex:X} {r:R} (h:asg r=true):exprF ex r=asgOut (txt r) (ex r.tail.tail):=by
 unfold asg at h;rw[exprF,if_pos h];cases ex r.tail.tail with
 | none=>rfl
 | some y=>rfl
theorem expr_asgn {n:Nat} (hx:XI n) {P:Cst} {p:Nat} {w:World} (h:IS P p w) (hn:(rest P p).length<n+1) (ha:asg (rest P p)=true):
  Calls Tryz.prog 48 #[.pointer (some ⟨P.pb,0,none⟩)] w (IBack P w (expr (n+1) (rest P p))):=by
 have hb0:Below w.heap.size w (w.alloc (.cells #[.int .i64 0,.string ⟨#[]⟩,.int .i64 0,.slice none 0 0,.slice none 0 0] 27)):=(zB _ _).alloc (zL _) _;have h1:=h.below hb0;have KA:=zH (startsAssignment_any h1);have hh1:hd 1 (rest P p)=true:=by unfold asg at ha;rw[Bool.and_eq_true] at ha;exact ha.1
 have hh2:mk cGets (rest P (p+1))=true:=by unfold asg at ha;rw[Bool.and_eq_true,zak] at ha;exact ha.2
 have HG:=zH (expr_asg1 (ex:=expr n) ha);have HH1:=zH hh1;have HH2:=zH hh2;have HPS:=zH h1;have HT:=zH ((Turn.refl P w).low hb0);have HZ:=zH (zero_new w 27);have HLO:=zH h.lo;have hpbl:=h.size;have HLEN:=zH hn;have htx:=text_le (p:=p) h.fit.fit;rw[ha] at KA;clear h hn ha hh1 hh2 h1;show Calls _ _ _ _ (IBack P w (exprF (expr n) (rest P p)))
 generalize exprF (expr n) (rest P p)=G at *;generalize hpb:P.pb=pb at *;have HPB:=zH hpb;clear hpb;go_enter Tryz.func48,Tryz.ntmps48;go_wp2_with fail
 refine KA.out.mono ?_;rintro e w1 ⟨rfl,hb1⟩;have hps1:=HPS.out.below hb1;have KT:=zH (take_yes hps1 HH1.out);have HT1:=zH (HT.out.below hb1);have HZ1:=zH (HZ.out.step hb1);rw[HPB.out] at KT;clear hb1 hps1 KA HPS HT HZ;generalize hxx:txt (rest P p)=x at *;have HXX:=zH hxx;clear hxx;go_wp2_with fail
 refine KT.out.mono ?_;rintro e w2 ⟨rfl,h2,ht2⟩;have KN:=zH (need_yes h2 HH2.out);have HT2:=zH (HT1.out.trans ht2);have HZ2:=zH (HZ1.out.turn ht2 (by rw[HPB.out];omega));rw[HPB.out] at KN;clear h2 ht2 KT;go_wp2_with fail
 refine KN.out.mono ?_;rintro e w3 ⟨rfl,h3,ht3⟩
 have KE:=zH (hx P (p+1+1) w3 h3 (by have h1:=HLEN.out;have h4:=mk_lt' HH2.out;rw[zar] at h1 ⊢;omega))
 have HT3:=zH (HT2.out.trans ht3);have HZ3:=zH (HZ2.out.turn ht3 (by rw[HPB.out];omega));have hs3:=HT3.out.size;have HG1:Hid (G=asgOut x (expr n (rest P (p+1+1)))):=zH (by rw[HG.out,zak,zak]);rw[HPB.out] at KE;clear h3 ht3 KN hx HG;go_wp2_with fail
 refine KE.out.mono ?_;rintro e w4 (⟨t,q4,rfl,ho4,h4,ht4,hg4⟩|⟨⟨v,rfl⟩,ht4,hg4⟩)
 case inr=>
  have HG2:Hid (G=none):=zH (by rw[HG1.out,hg4];rfl);have HT4:=zH (HT3.out.trans ht4);clear ht4 hg4 KE HG1;go_wp2_with fail
  exact ⟨rfl,.inr ⟨⟨_,rfl⟩,HT4.out,HG2.out⟩⟩
 have HG2:Hid (G=some (.mk 5 x 0 [] [toE t],rest P q4)):=zH (by rw[HG1.out,hg4];rfl);have hba:Below w4.heap.size w4 (w4.alloc (.cells #[.int .i64 t.kind,.string t.text,.int .i64 t.num,t.vn,t.vk] 27)):=(zB _ _).alloc (zL _) _;have hz3s:=HZ3.out.size;have HL4:=zH ((lit_row ho4 ht4.size).node (k:=5) (n:=0) (s:=x) (by rfl) (by rfl) (by unfold maxLen;omega));have HPS4:=zH (h4.below hba)
 have HT4:=zH ((HT3.out.trans ht4).below hba);obtain ⟨hszz,y0,y1,y2,y3,y4,yfz⟩:=(HZ3.out.turn ht4 (by rw[HPB.out];omega)).step hba;unfold agg;clear h4 ht4 hg4 ho4 hba KE HG1;go_wp2_with fail
 have hb9:=zah (zB w.heap.size (w4.alloc (.cells #[.int .i64 t.kind,.string t.text,.int .i64 t.num,t.vn,t.vk] 27))) (B:=w.heap.size) (zL _) (.int .i64 5) (.string x) (.int .i64 0) (.slice none 0 0) (.slice (some ⟨w4.heap.size,0,none⟩) 1 1);refine bodyPost_ret (v:=.agg #[.int .i64 5,.string x,.int .i64 0,.slice none 0 0,.slice (some ⟨w4.heap.size,0,none⟩) 1 1]) (by simp[results,Tryz.results48,go_sem, *]) rfl ?_
 exact .inl ⟨.mk 5 x 0 [] (.slice none 0 0) (.slice (some ⟨w4.heap.size,0,none⟩) 1 1) [t],q4,rfl,(Own.put5 HL4.out (B:=w.heap.size) (fun hm=>by have:=HL4.out.lo _ hm;omega) _ _ _ _ _).mono hs3,HPS4.out.low hb9 HLO.out,HT4.out.low hb9,by rw[HG2.out];rfl⟩
theorem own_sent {u:T} (h:Sent (toE u)):∃ s vn vk t0 kt,u=.mk 6 s 0 [] vn vk (t0::kt):=by
 obtain ⟨e,s,args,h⟩:=h;cases u with
 | mk k t n ns vn vk ks=>
  rw[toE] at h;unfold eSend at h
  injection h with h1 h2 h3 h4 h5
  subst h1 h2 h3 h4;cases ks with
  | nil=>rw[toEs] at h5;cases h5
  | cons t0 kt=>exact ⟨_,_,_,_,_,rfl⟩
theorem expr_other {n:Nat} (hx:XI n) {P:Cst} {p:Nat} {w:World} (h:IS P p w) (hn:(rest P p).length<n+1) (ha:asg (rest P p)=false):
  Calls Tryz.prog 48 #[.pointer (some ⟨P.pb,0,none⟩)] w (IBack P w (expr (n+1) (rest P p))):=by
 have hb0:Below w.heap.size w (w.alloc (.cells #[.int .i64 0,.string ⟨#[]⟩,.int .i64 0,.slice none 0 0,.slice none 0 0] 27)):=(zB _ _).alloc (zL _) _;have h1:=h.below hb0;have KA:=zH (startsAssignment_any h1);have KP:=zH (fun (w1:World) (q:Nat) (h1:IS P q w1) (hl:(rest P q).length<=n)=>primary_any hx h1 hl)
 have KS1:=zH (fun (w1:World) (q X:Nat) (t:T) (h1:IS P q w1) (hl:(rest P q).length<=n) (ho:Own (w.heap.size+1) w1 t) (hw:w.heap.size+1<=w1.heap.size) (hX:X<w1.heap.size) (hfx:∀ b,b∈foot t->b≠X)=>sends_x (k:=1) (by decide) (msgs hx).1 h1 hl ho (Nat.lt_succ_of_lt h.size) hw hX hfx)
 have KS2:=zH (fun (w1:World) (q X:Nat) (t:T) (h1:IS P q w1) (hl:(rest P q).length<=n) (ho:Own (w.heap.size+1) w1 t) (hw:w.heap.size+1<=w1.heap.size) (hX:X<w1.heap.size) (hfx:∀ b,b∈foot t->b≠X)=>sends_x (k:=6) (by decide) (msgs hx).2.1 h1 hl ho (Nat.lt_succ_of_lt h.size) hw hX hfx)
 have KS3:=zH (fun (w1:World) (q X:Nat) (t:T) (h1:IS P q w1) (hl:(rest P q).length<=n) (ho:Own (w.heap.size+1) w1 t) (hw:w.heap.size+1<=w1.heap.size) (hX:X<w1.heap.size) (hfx:∀ b,b∈foot t->b≠X)=>sends_x (k:=2) (by decide) (msgs hx).2.2 h1 hl ho (Nat.lt_succ_of_lt h.size) hw hX hfx)
 have KC:=zH (fun (w1:World) (q:Nat) (s:ByteArray) (vn vk:Value) (t0:T) (kt:List T) (h1:IS P q w1) (hl:(rest P q).length<=n) (ho:Own (w.heap.size+1) w1 (.mk 6 s 0 [] vn vk (t0::kt))) (hw:w.heap.size+1<=w1.heap.size) (hk:kt.length<=3300000)=>cascade_any hx h1 hl ho (Nat.lt_succ_of_lt h.size) hw hk)
 have KN:=zH (fun (w1:World) (q:Nat) (h1:IS P q w1)=>next_any h1)
 have KM:=zH (fun (w1:World)=>mark_any ⟨#[59]⟩ w1)
 have HFINE:=zH (fun (w1:World) (q:Nat) (h1:IS P q w1)=>fine_rest h1)
 have HTWO:Hid (∀ q,hd 2 (rest P q)=true->0<(txt (rest P q)).size):=zH (fun q hq=>by obtain ⟨t,r,hr,hk⟩:=hd_some hq;have h1:=(h.fit.fine t (List.mem_of_getElem? (rest_cons hr).2.1)).two hk;rw[hr];exact h1)
 have HFT:=zH h.fit.fit;have HA:=zH ha;have HPS:=zH h1;have HT:=zH ((Turn.refl P w).low hb0);have HZ:=zH (zero_new w 27);have HLO:=zH h.lo;have hpbl:=h.size
 have HLEN:Hid (∀ q,p<=q->(rest P q).length<=n):=zH (fun q hq=>by rw[zar] at hn ⊢;omega)
 have hw0:(w.alloc (.cells #[.int .i64 0,.string ⟨#[]⟩,.int .i64 0,.slice none 0 0,.slice none 0 0] 27)).heap.size=w.heap.size+1:=by simp
 rw[ha] at KA;clear h hn ha h1 hx hb0;show Calls _ _ _ _ (IBack P w (exprF (expr n) (rest P p)))
 generalize hG:exprF (expr n) (rest P p)=G;have HG:=zH hG;clear hG;generalize hpb:P.pb=pb at *;have HPB:=zH hpb;clear hpb;generalize hN:P.toks.length=N;have HN:=zH hN;clear hN;go_enter Tryz.func48,Tryz.ntmps48;go_wp2_with fail
 refine KA.out.mono ?_;rintro e w1 ⟨rfl,hb1⟩;have hps1:=HPS.out.below hb1;have KP1:=zH (KP.out w1 p hps1 (HLEN.out p (zL _)));have HT1:=zH (HT.out.below hb1);have HZ1:=zH (HZ.out.step hb1);have hs1:=hb1.size;rw[hw0] at hs1;clear hb1 hps1 KA HPS HT HZ hw0 KP;go_wp2_with fail
 refine KP1.out.mono ?_;rintro e w2 (⟨u0,q0,rfl,ho2,h2,ht2,hg0⟩|⟨⟨v,rfl⟩,ht2,hg0⟩)
 case inr=>
  have HG2:Hid (G=none):=zH (by rw[<-HG.out,expr_prim HA.out hg0]);have HT2:=zH (HT1.out.trans ht2);clear ht2 hg0 KP1;go_wp2_with fail
  exact ⟨rfl,.inr ⟨⟨_,rfl⟩,HT2.out,HG2.out⟩⟩
 obtain ⟨ua0,uc0,ub0,ud0,hf1,hf2⟩:=good_forms ho2.good;obtain ⟨uk0,ut0,un0,uns0,uvn,uvk,uks0⟩:=u0;simp only[T.vn,T.vk,T.names,T.kids] at hf1 hf2;subst hf1 hf2;unfold agg;simp only[T.kind,T.text,T.num,T.vn,T.vk];have hB:w.heap.size+1<=w2.heap.size:=Nat.le_trans hs1 ht2.size;obtain ⟨w3,hw3⟩:∃ w3,w3=w2.alloc (.cells #[.int .i64 uk0,.string ut0,.int .i64 un0,.slice ua0 uns0.length uc0,.slice ub0 uks0.length ud0] 27):=⟨_,rfl⟩
 have HW3:=zH hw3;have hba:Below w2.heap.size w2 w3:=by rw[hw3];exact (zB _ _).alloc (zL _) _
 have hsz3:w3.heap.size=w2.heap.size+1:=by rw[hw3];simp
 have hf3:=five_new w2 (.int .i64 uk0) (.string ut0) (.int .i64 un0) (.slice ua0 uns0.length uc0) (.slice ub0 uks0.length ud0) 27;rw[<-hw3] at hf3;have HP0:=zH hg0
 have HQ0:Hid (p<q0/\q0<=N):=zH (by have h3:=primary_lt (zat n) hg0;have h4:=h2.le;rw[zar,zar,HN.out] at h3;rw[HN.out] at h4;omega)
 have hps3:=h2.below hba;have HPS0:=zH hps3;have HT0:=zH ((HT1.out.trans ht2).below hba);have HZ0:=zH ((HZ1.out.turn ht2 (by rw[HPB.out];omega)).step hba);have HF0:=zH hf3;have HO0:=zH ((ho2.mono hs1).below hba)
 have HX0:Hid (∀ b,b∈foot (T.mk uk0 ut0 un0 uns0 (.slice ua0 uns0.length uc0) (.slice ub0 uks0.length ud0) uks0)->b≠w2.heap.size):=zH (fun b hb=>by have h5:=ho2.lt b hb;omega)
 obtain ⟨ca,cc,c0⟩:=hps3.cell;rw[HPB.out,HN.out] at c0;have hq0:=HQ0.out.1;have hq0':=HQ0.out.2;generalize hl0:N-q0=l0 at c0;have HL0:=zH hl0;clear hl0;clear ho2 h2 ht2 hg0 hba hf3 hps3 KP1 HT1 HZ1 hw3
 go_upto_region 6 with fail
 rw[<-HW3.out];generalize hBB:w2.heap.size=B at *;clear HW3;have hsz1w:=HF0.out.size;have KSx:=zH (KS1.out w3 q0 B (T.mk uk0 ut0 un0 uns0 (.slice ua0 uns0.length uc0) (.slice ub0 uks0.length ud0) uks0) HPS0.out (HLEN.out q0 (by omega)) HO0.out (by omega) hsz1w HX0.out);unfold agg at KSx;simp only[T.kind,T.text,T.num,T.vn,T.vk] at KSx;have f10:=HF0.out.z0;have f11:=HF0.out.z1;have f12:=HF0.out.z2
 have f13:=HF0.out.z3;have f14:=HF0.out.z4;go_wp2_with fail
 refine KSx.out.mono ?_;rintro e x1 (⟨u1,q1,rfl,ho,h,ht,hg,hfx⟩|⟨⟨v,rfl⟩,ht,hg⟩)
 case inr=>exact absurd hg (expr_un (zat n))
 obtain ⟨ua1,uc1,ub1,ud1,hf1,hf2⟩:=good_forms ho.good;obtain ⟨uk1,ut1,un1,uns1,uvn,uvk,uks1⟩:=u1;simp only[T.vn,T.vk,T.names,T.kids] at hf1 hf2;subst hf1 hf2;unfold agg;simp only[T.kind,T.text,T.num,T.vn,T.vk];have HP1:=zH hg
 have HQ1:Hid (q0<=q1/\q1<=N):=zH (by have h3:=(sLoop_le (zat n) _ _ _ _ _ (zL _) hg).1;have h4:=h.le;rw[zar,zar,HN.out] at h3;rw[HN.out] at h4;omega)
 have hq1:=HQ1.out.1;have hq1':=HQ1.out.2;obtain ⟨v1,hv1⟩:∃ v1,v1=put5 x1 B (.int .i64 uk1) (.string ut1) (.int .i64 un1) (.slice ua1 uns1.length uc1) (.slice ub1 uks1.length ud1):=⟨_,rfl⟩;have HV1:=zH hv1;have hb5:Below B x1 v1:=by rw[hv1];exact zah (zB B x1) (B:=B) (zL _) _ _ _ _ _
 have hfo:=HF0.out.turn ht (by rw[HPB.out];omega);have HPS1:=zH (h.low hb5 (HLO.out.le (by omega)));have HT1:=zH ((HT0.out.trans ht).low (hb5.mono (by omega)));have HZ1:=zH ((HZ0.out.turn ht (by rw[HPB.out];omega)).low hb5 (by omega));have HF1:Hid (Five B (.int .i64 uk1) (.string ut1) (.int .i64 un1) (.slice ua1 uns1.length uc1) (.slice ub1 uks1.length ud1) v1):=zH (by rw[hv1];exact five_put hfo)
 have HO1:Hid (Own (w.heap.size+1) v1 (T.mk uk1 ut1 un1 uns1 (.slice ua1 uns1.length uc1) (.slice ub1 uks1.length ud1) uks1)):=zH (by rw[hv1];exact Own.put5 ho (fun hm=>hfx _ hm rfl) _ _ _ _ _)
 have HX1:=zH hfx;unfold put5 at hv1;have HVU1:=zH hv1;obtain ⟨-,g0,g1,g2,g3,g4,gfz⟩:=hfo;clear ho h ht hg hfx hb5 KSx hv1 f10 f11 f12 f13 f14 c0
 go_upto_region 8 with fail
 rw[<-HVU1.out];clear g0 g1 g2 g3 g4 gfz HVU1 HV1;have hsz2w:=HF1.out.size;have KSx:=zH (KS2.out v1 q1 B (T.mk uk1 ut1 un1 uns1 (.slice ua1 uns1.length uc1) (.slice ub1 uks1.length ud1) uks1) HPS1.out (HLEN.out q1 (by omega)) HO1.out (by omega) hsz2w HX1.out);unfold agg at KSx;simp only[T.kind,T.text,T.num,T.vn,T.vk] at KSx;have f20:=HF1.out.z0;have f21:=HF1.out.z1;have f22:=HF1.out.z2;have f23:=HF1.out.z3
 have f24:=HF1.out.z4;go_wp2_with fail
 refine KSx.out.mono ?_;rintro e x2 (⟨u2,q2,rfl,ho,h,ht,hg,hfx⟩|⟨⟨v,rfl⟩,ht,hg⟩)
 case inr=>
  have HG2:Hid (G=none):=zH (by rw[<-HG.out,expr_bin (zat n) HA.out HP0.out HP1.out hg])
  have HTX:=zH (HT1.out.trans ht);clear ht hg KSx;go_wp2_with fail
  exact ⟨rfl,.inr ⟨⟨_,rfl⟩,HTX.out,HG2.out⟩⟩
 obtain ⟨ua2,uc2,ub2,ud2,hf1,hf2⟩:=good_forms ho.good;obtain ⟨uk2,ut2,un2,uns2,uvn,uvk,uks2⟩:=u2;simp only[T.vn,T.vk,T.names,T.kids] at hf1 hf2;subst hf1 hf2;unfold agg;simp only[T.kind,T.text,T.num,T.vn,T.vk];have HP2:=zH hg
 have HQ2:Hid (q1<=q2/\q2<=N):=zH (by have h3:=(sLoop_le (zat n) _ _ _ _ _ (zL _) hg).1;have h4:=h.le;rw[zar,zar,HN.out] at h3;rw[HN.out] at h4;omega)
 have hq2:=HQ2.out.1;have hq2':=HQ2.out.2;obtain ⟨v2,hv2⟩:∃ v2,v2=put5 x2 B (.int .i64 uk2) (.string ut2) (.int .i64 un2) (.slice ua2 uns2.length uc2) (.slice ub2 uks2.length ud2):=⟨_,rfl⟩;have HV2:=zH hv2;have hb5:Below B x2 v2:=by rw[hv2];exact zah (zB B x2) (B:=B) (zL _) _ _ _ _ _
 have hfo:=HF1.out.turn ht (by rw[HPB.out];omega);have HPS2:=zH (h.low hb5 (HLO.out.le (by omega)));have HT2:=zH ((HT1.out.trans ht).low (hb5.mono (by omega)));have HZ2:=zH ((HZ1.out.turn ht (by rw[HPB.out];omega)).low hb5 (by omega));have HF2:Hid (Five B (.int .i64 uk2) (.string ut2) (.int .i64 un2) (.slice ua2 uns2.length uc2) (.slice ub2 uks2.length ud2) v2):=zH (by rw[hv2];exact five_put hfo)
 have HO2:Hid (Own (w.heap.size+1) v2 (T.mk uk2 ut2 un2 uns2 (.slice ua2 uns2.length uc2) (.slice ub2 uks2.length ud2) uks2)):=zH (by rw[hv2];exact Own.put5 ho (fun hm=>hfx _ hm rfl) _ _ _ _ _)
 have HX2:=zH hfx;unfold put5 at hv2;have HVU2:=zH hv2;obtain ⟨-,g0,g1,g2,g3,g4,gfz⟩:=hfo;clear ho h ht hg hfx hb5 KSx hv2 f20 f21 f22 f23 f24
 go_upto_region 9 with fail
 rw[<-HVU2.out];clear g0 g1 g2 g3 g4 gfz HVU2 HV2;have hsz3w:=HF2.out.size;have KSx:=zH (KS3.out v2 q2 B (T.mk uk2 ut2 un2 uns2 (.slice ua2 uns2.length uc2) (.slice ub2 uks2.length ud2) uks2) HPS2.out (HLEN.out q2 (by omega)) HO2.out (by omega) hsz3w HX2.out);unfold agg at KSx;simp only[T.kind,T.text,T.num,T.vn,T.vk] at KSx;have f30:=HF2.out.z0;have f31:=HF2.out.z1;have f32:=HF2.out.z2;have f33:=HF2.out.z3
 have f34:=HF2.out.z4;go_wp2_with fail
 refine KSx.out.mono ?_;rintro e x3 (⟨u3,q3,rfl,ho,h,ht,hg,hfx⟩|⟨⟨v,rfl⟩,ht,hg⟩)
 case inr=>
  have HG2:Hid (G=none):=zH (by rw[<-HG.out,expr_key0 (zat n) HA.out HP0.out HP1.out HP2.out (HTWO.out q2) hg])
  have HTX:=zH (HT2.out.trans ht);clear ht hg KSx;go_wp2_with fail
  exact ⟨rfl,.inr ⟨⟨_,rfl⟩,HTX.out,HG2.out⟩⟩
 obtain ⟨ua3,uc3,ub3,ud3,hf1,hf2⟩:=good_forms ho.good;obtain ⟨uk3,ut3,un3,uns3,uvn,uvk,uks3⟩:=u3;simp only[T.vn,T.vk,T.names,T.kids] at hf1 hf2;subst hf1 hf2;unfold agg;simp only[T.kind,T.text,T.num,T.vn,T.vk];have HP3:=zH hg
 have HQ3:Hid (q2<=q3/\q3<=N):=zH (by have h3:=(sLoop_le (zat n) _ _ _ _ _ (zL _) hg).1;have h4:=h.le;rw[zar,zar,HN.out] at h3;rw[HN.out] at h4;omega)
 have hq3:=HQ3.out.1;have hq3':=HQ3.out.2;obtain ⟨v3,hv3⟩:∃ v3,v3=put5 x3 B (.int .i64 uk3) (.string ut3) (.int .i64 un3) (.slice ua3 uns3.length uc3) (.slice ub3 uks3.length ud3):=⟨_,rfl⟩;have HV3:=zH hv3;have hb5:Below B x3 v3:=by rw[hv3];exact zah (zB B x3) (B:=B) (zL _) _ _ _ _ _
 have hfo:=HF2.out.turn ht (by rw[HPB.out];omega);have HPS3:=zH (h.low hb5 (HLO.out.le (by omega)));have HT3:=zH ((HT2.out.trans ht).low (hb5.mono (by omega)));have HZ3:=zH ((HZ2.out.turn ht (by rw[HPB.out];omega)).low hb5 (by omega));have HF3:Hid (Five B (.int .i64 uk3) (.string ut3) (.int .i64 un3) (.slice ua3 uns3.length uc3) (.slice ub3 uks3.length ud3) v3):=zH (by rw[hv3];exact five_put hfo)
 have HO3:Hid (Own (w.heap.size+1) v3 (T.mk uk3 ut3 un3 uns3 (.slice ua3 uns3.length uc3) (.slice ub3 uks3.length ud3) uks3)):=zH (by rw[hv3];exact Own.put5 ho (fun hm=>hfx _ hm rfl) _ _ _ _ _)
 have HX3:=zH hfx;unfold put5 at hv3;have HVU3:=zH hv3;obtain ⟨-,g0,g1,g2,g3,g4,gfz⟩:=hfo;clear ho h ht hg hfx hb5 KSx hv3 f30 f31 f32 f33 f34
 go_upto_region 10 with fail
 rw[<-HVU3.out];clear g0 g1 g2 g3 g4 gfz HVU3 HV3;have HG3:Hid (G=after (expr n) (rest P q0).length (toE (T.mk uk3 ut3 un3 uns3 (.slice ua3 uns3.length uc3) (.slice ub3 uks3.length ud3) uks3)) (rest P q3)):=zH (by rw[<-HG.out,expr_all2 (zat n) HA.out HP0.out HP1.out HP2.out (HTWO.out q2) HP3.out])
 have KNx:=zH (KN.out v3 q3 HPS3.out);cases hm:mk cSemi (rest P q3) with
 | false=>
  have HNM:=zH (nxt_mark hm);have HG4:Hid (G=some (toE (T.mk uk3 ut3 un3 uns3 (.slice ua3 uns3.length uc3) (.slice ub3 uks3.length ud3) uks3),rest P q3)):=zH (by rw[HG3.out,after_stop hm]);clear hm;generalize nxt (rest P q3)=t at *;obtain ⟨tk,tt,tn⟩:=t;by_cases h7:tk=7
  ·subst h7
   have h8:=HNM.out rfl;simp only at h8;have h9:¬tt.toList=[59]:=fun e=>h8 (by rw[e,ByteArray.toList_eq cSemi];rfl)
   clear HNM h8;go_wp2_with fail
   refine KNx.out.mono ?_;rintro e v4 ⟨rfl,hb4⟩;have HB4:=zH hb4;clear hb4 KNx;go_wp2_with fail
   refine (KM.out _).mono ?_;rintro e v5 ⟨rfl,hb5⟩;have hb:=HB4.out.trans (hb5.mono HB4.out.size);have HPS5:=zH (HPS3.out.below hb);have HT5:=zH (HT3.out.below hb);have HO5:=zH (HO3.out.below hb);obtain ⟨hszz,y0,y1,y2,y3,y4,yfz⟩:=HZ3.out.step hb;obtain ⟨hs5,f0,f1,f2,f3,f4,ffz⟩:=HF3.out.step hb;clear hb5 hb;go_wp2_with fail
   have hb9:=zah (zB w.heap.size v5) (B:=w.heap.size) (zL _) (.int .i64 uk3) (.string ut3) (.int .i64 un3) (.slice ua3 uns3.length uc3) (.slice ub3 uks3.length ud3);refine bodyPost_ret (v:=.agg #[(.int .i64 uk3),(.string ut3),(.int .i64 un3),(.slice ua3 uns3.length uc3),(.slice ub3 uks3.length ud3)]) (by simp[results,Tryz.results48,go_sem, *]) rfl ?_;exact .inl ⟨(T.mk uk3 ut3 un3 uns3 (.slice ua3 uns3.length uc3) (.slice ub3 uks3.length ud3) uks3),q3,rfl,(Own.put5 HO5.out (B:=w.heap.size) (fun hm=>by have:=HO5.out.lo _ hm;omega) _ _ _ _ _).mono (Nat.le_succ _),HPS5.out.low hb9 HLO.out,HT5.out.low hb9,HG4.out⟩
  ·clear HNM
   go_wp2_with fail
   refine KNx.out.mono ?_;rintro e v4 ⟨rfl,hb4⟩;have HB4:=zH hb4;clear hb4 KNx;go_wp2_with fail
   refine (KM.out _).mono ?_;rintro e v5 ⟨rfl,hb5⟩;have hb:=HB4.out.trans (hb5.mono HB4.out.size);have HPS5:=zH (HPS3.out.below hb);have HT5:=zH (HT3.out.below hb);have HO5:=zH (HO3.out.below hb);obtain ⟨hszz,y0,y1,y2,y3,y4,yfz⟩:=HZ3.out.step hb;obtain ⟨hs5,f0,f1,f2,f3,f4,ffz⟩:=HF3.out.step hb;clear hb5 hb;go_wp2_with fail
   have hb9:=zah (zB w.heap.size v5) (B:=w.heap.size) (zL _) (.int .i64 uk3) (.string ut3) (.int .i64 un3) (.slice ua3 uns3.length uc3) (.slice ub3 uks3.length ud3);refine bodyPost_ret (v:=.agg #[(.int .i64 uk3),(.string ut3),(.int .i64 un3),(.slice ua3 uns3.length uc3),(.slice ub3 uks3.length ud3)]) (by simp[results,Tryz.results48,go_sem, *]) rfl ?_;exact .inl ⟨(T.mk uk3 ut3 un3 uns3 (.slice ua3 uns3.length uc3) (.slice ub3 uks3.length ud3) uks3),q3,rfl,(Own.put5 HO5.out (B:=w.heap.size) (fun hm=>by have:=HO5.out.lo _ hm;omega) _ _ _ _ _).mono (Nat.le_succ _),HPS5.out.low hb9 HLO.out,HT5.out.low hb9,HG4.out⟩
 | true=>
  obtain ⟨r',hr⟩:=mk_nxt hm (HFINE.out v3 q3 HPS3.out);have hnn:nxt (rest P q3)=⟨7,⟨#[59]⟩,0⟩:=by rw[hr];rfl
  rw[hnn] at KNx;have HM:=zH hm;clear hm hr hnn r';simp only at KNx;go_wp2_with fail
  refine KNx.out.mono ?_;rintro e v4 ⟨rfl,hb4⟩;have HB4:=zH hb4;clear hb4 KNx;go_wp2_with fail
  refine (KM.out _).mono ?_;rintro e v5 ⟨rfl,hb5⟩;have hb:=HB4.out.trans (hb5.mono HB4.out.size);have HPS5:=zH (HPS3.out.below hb);have HT5:=zH (HT3.out.below hb);have HO5:=zH (HO3.out.below hb);have HZ5:=zH (HZ3.out.step hb);obtain ⟨hs5,f0,f1,f2,f3,f4,ffz⟩:=HF3.out.step hb;obtain ⟨ca3,cc3,c3⟩:=HPS5.out.cell;rw[HPB.out,HN.out] at c3;generalize hl3:N-q3=l3 at c3;have HL3:=zH hl3;clear hl3
  clear hb5 hb;by_cases hll:l3=l0
  ·have b1:((l3:Int)==(l0:Int))=true:=by rw[hll];exact beq_self_eq_true _
   have HG4:Hid (G=none):=zH (by rw[HG3.out,after_bad HM.out (by rw[zar,zar,HN.out,HL3.out,HL0.out,hll])])
   clear hll;go_wp2_with fail
   exact ⟨rfl,.inr ⟨⟨_,rfl⟩,HT5.out,HG4.out⟩⟩
  ·have b1:((l3:Int)==(l0:Int))=false:=by
    rw[beq_eq_false_iff_ne];omega
   have hne:(rest P q3).length≠(rest P q0).length:=by rw[zar,zar,HN.out,HL3.out,HL0.out];exact hll
   have hsent:=(expr_sent (zat n) HP1.out HP2.out HP3.out hne).1;obtain ⟨s,vn,vk,t0,kt,he⟩:=own_sent hsent;have hsz5:w.heap.size+1<=v5.heap.size:=by omega
   have KCx:Hid (Calls Tryz.prog 114 #[.pointer (some ⟨pb,0,none⟩),agg (T.mk uk3 ut3 un3 uns3 (.slice ua3 uns3.length uc3) (.slice ub3 uks3.length ud3) uks3)] v5 (SBack P (w.heap.size+1) v5 G)):=zH (by
    have ho:=HO5.out;have h3:=HP3.out;have hg:=HG3.out;rw[he] at ho h3 hg ⊢;have hte:toE (T.mk 6 s 0 [] vn vk (t0::kt))=eSend (toE t0) s (toEs kt):=by rw[toE_send];rfl
    rw[hte] at h3 hg;have hfew:=(sent_few HFT.out HP0.out HP1.out HP2.out h3).1;rw[toEs_len] at hfew;rw[hg,after_cas HM.out hne,cascade_sent HM.out];exact KC.out v5 q3 s vn vk t0 kt HPS5.out (HLEN.out q3 (by omega)) ho hsz5 hfew)
   unfold agg at KCx;simp only[T.kind,T.text,T.num,T.vn,T.vk] at KCx;clear hll hne hsent he;go_wp2_with fail
   refine KCx.out.mono ?_;rintro e x6 (⟨u6,q6,rfl,ho,h,ht,hg⟩|⟨⟨v,rfl⟩,ht,hg⟩)
   case inr=>
    have HGX:=zH hg;have HTX:=zH (HT5.out.trans ht);clear ht hg KCx;go_wp2_with fail
    exact ⟨rfl,.inr ⟨⟨_,rfl⟩,HTX.out,HGX.out⟩⟩
   obtain ⟨ua6,uc6,ub6,ud6,hf1,hf2⟩:=good_forms ho.good;obtain ⟨uk6,ut6,un6,uns6,uvn,uvk,uks6⟩:=u6;simp only[T.vn,T.vk,T.names,T.kids] at hf1 hf2;subst hf1 hf2;unfold agg;simp only[T.kind,T.text,T.num,T.vn,T.vk];have HO6:=zH ho;have HPS6:=zH h;have HT6:=zH (HT5.out.trans ht);have HG6:=zH hg;obtain ⟨hszz,y0,y1,y2,y3,y4,yfz⟩:=HZ5.out.turn ht (by rw[HPB.out];omega);clear ho h ht hg KCx f0 f1 f2 f3 f4 ffz
   go_wp2_with fail
   have hb9:=zah (zB w.heap.size x6) (B:=w.heap.size) (zL _) (.int .i64 uk6) (.string ut6) (.int .i64 un6) (.slice ua6 uns6.length uc6) (.slice ub6 uks6.length ud6);refine bodyPost_ret (v:=.agg #[(.int .i64 uk6),(.string ut6),(.int .i64 un6),(.slice ua6 uns6.length uc6),(.slice ub6 uks6.length ud6)]) (by simp[results,Tryz.results48,go_sem, *]) rfl ?_;exact .inl ⟨(T.mk uk6 ut6 un6 uns6 (.slice ua6 uns6.length uc6) (.slice ub6 uks6.length ud6) uks6),q6,rfl,(Own.put5 HO6.out (B:=w.heap.size) (fun hm=>by have:=HO6.out.lo _ hm;omega) _ _ _ _ _).mono (Nat.le_succ _),HPS6.out.low hb9 HLO.out,HT6.out.low hb9,HG6.out⟩
theorem expr_step {n:Nat} (hx:XI n):XI (n+1):=by
 intro P p w h hn;cases ha:asg (rest P p) with
 | true=>exact expr_asgn hx h hn ha
 | false=>exact expr_other hx h hn ha
theorem expr_any:∀ n,XI n
 | 0=>fun _ _ _ _ hn=>absurd hn (Nat.not_lt_zero _)
 | n+1=>expr_step (expr_any n)
end ParI
end Go.Proofs.YtbigfeblomfflaaGreatDoor
