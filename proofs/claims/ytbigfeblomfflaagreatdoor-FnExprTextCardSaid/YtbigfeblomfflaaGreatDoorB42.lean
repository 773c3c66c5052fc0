/-
  ParKey ParSteps ParMess ParCasK
-/
import Derived.Test.YtbigfeblomfflaaGreatDoorB41
import Derived.Deep.AppendLies
set_option maxHeartbeats 8000000
set_option maxRecDepth 10000
namespace Go.Proofs.YtbigfeblomfflaaGreatDoor
namespace ParI
open Go.RowKit
open Strs Tree Gram Placed
open Go.Proofs.YtbigfeblomfflaaGreatDoor.Parser
theorem mess_key {ex:X} {r:R} (h:hd 2 r=true):message ex r=match keyLoop ex none_ [] r with|none=>none|some (sel,args,r1)=>if sel.size=0 then none else some (eMsg sel args,r1):=by
 rw[message,if_neg (by rw[hd_one h (by decide)];simp),if_neg (by rw[hd_one h (by decide)];simp)]
 cases keyLoop ex none_ [] r<;>rfl
theorem drop2_some {g:Option (E×Bool×R)} {e:E} {r:R} (h:drop2 g=some (e,r)):∃ s,g=some (e,s,r):=by
 unfold drop2 at h;cases g with
 | none=>cases h
 | some y=>obtain ⟨a,s,r2⟩:=y;cases h;exact ⟨s,rfl⟩
theorem drop2_none {g:Option (E×Bool×R)} (h:drop2 g=none):g=none:=by
 unfold drop2 at h;cases g with
 | none=>rfl
 | some y=>cases h
theorem zai (w:World) (k:Nat):Below w.heap.size w (w.drewN k):=⟨rfl,rfl,rfl,zL _,fun _ _=>rfl⟩
theorem message_2 {n:Nat} (hx:XI n):MC n 2:=by
 intro P p w h hn hh;have hfd:=field0;obtain ⟨i0,hi,hz0,hz1,hz2⟩:=info_parts infoE;have hbz:Below w.heap.size w (w.alloc (.cells #[.int .i64 0,.string ⟨#[]⟩,.int .i64 0,.slice none 0 0,.slice none 0 0] 27)):=(zB _ _).alloc (zL _) _;have hw1:(w.alloc (.cells #[.int .i64 0,.string ⟨#[]⟩,.int .i64 0,.slice none 0 0,.slice none 0 0] 27)).heap.size=w.heap.size+1:=by simp
 have hbe:Below (w.alloc (.cells #[.int .i64 0,.string ⟨#[]⟩,.int .i64 0,.slice none 0 0,.slice none 0 0] 27)).heap.size (w.alloc (.cells #[.int .i64 0,.string ⟨#[]⟩,.int .i64 0,.slice none 0 0,.slice none 0 0] 27)) ((w.alloc (.cells #[.int .i64 0,.string ⟨#[]⟩,.int .i64 0,.slice none 0 0,.slice none 0 0] 27)).alloc (.cells #[.int .i64 6,.string ⟨#[]⟩,.int .i64 0,.slice none 0 0,.slice none 0 0] 27)):=(zB _ _).alloc (zL _) _
 have hb2:=hbz.trans (hbe.mono hbz.size);have h2:=h.below hb2;have KN:=zH (next_any h2);have hf:=five_new (w.alloc (.cells #[.int .i64 0,.string ⟨#[]⟩,.int .i64 0,.slice none 0 0,.slice none 0 0] 27)) (.int .i64 6) (.string ⟨#[]⟩) (.int .i64 0) (.slice none 0 0) (.slice none 0 0) 27;rw[hw1] at hf;have KX:=zH (fun (w1:World) (q:Nat) (h1:IS P q w1)=>next_any h1)
 have KT:=zH (fun (w1:World) (q:Nat) (h1:IS P q w1) (hk:hd 2 (rest P q)=true)=>take_yes h1 hk)
 have KB:=zH (fun (w1:World) (q:Nat) (h1:IS P q w1) (hl:(rest P q).length<=n)=>binary_any hx h1 hl)
 have HF:=zH hf;have HZ:=zH ((zero_new w 27).step hbe);have HPS:=zH h2;have HT:=zH ((Turn.refl P w).low hb2);have HLO:=zH h.lo;have hpbl:=h.size;have HG:=zH (mess_key (ex:=expr n) hh);have HH:=zH hh;have HLEN:=zH hn;have HFT:=zH h.fit.fit
 have HTWO:Hid (∀ q,hd 2 (rest P q)=true->0<(txt (rest P q)).size):=zH (fun q hq=>by obtain ⟨t,r,hr,hk⟩:=hd_some hq;have h1:=(h.fit.fine t (List.mem_of_getElem? (rest_cons hr).2.1)).two hk;rw[hr];exact h1)
 have h8:=h.fit.fit.len;have e1:(nxt (rest P p)).kind=2:=nxt_eq hh;clear h hn hh hx hbz hw1 hbe hb2 h2 hf;generalize message (expr n) (rest P p)=G at *;generalize hpb:P.pb=pb at *;have HPB:=zH hpb;clear hpb;generalize hN:P.toks.length=N at *;have HN:=zH hN;clear hN;generalize nxt (rest P p)=t at *;obtain ⟨tk,tt,tn⟩:=t;simp only at e1;subst e1;go_enter Tryz.func166,Tryz.ntmps166;go_wp2_with fail
 refine KN.out.mono ?_;rintro e w3 ⟨rfl,hb3⟩;have HPS3:=zH (HPS.out.below hb3);have HT3:=zH (HT.out.below hb3);have HZ3:=zH (HZ.out.step hb3);have HF3:=zH (HF.out.step hb3);clear hb3 KN HPS HT HZ HF;go_wp2_with fail
 go_loopw [25] (fun _ wr=>∃ (sel:ByteArray) (ts:List T) (v:Value) (q:Nat),p<=q/\ts.length<=q/\sel.size<=4000*q/\(q=p\/0<sel.size)/\Five (w.heap.size+1) (.int .i64 6) (.string sel) (.int .i64 0) (.slice none 0 0) v wr/\Zero w.heap.size wr/\Row (w.heap.size+2) wr ts v/\IS P q wr/\Turn P w wr/\keyLoop (expr n) none_ [] (rest P p)=keyLoop (expr n) sel (toEs ts) (rest P q)) (fun _ wr=>lft pb wr)
 case atStart=>exact ⟨⟨#[]⟩,[],_,p,zL _,Nat.zero_le _,Nat.zero_le _,.inl rfl,HF3.out,HZ3.out,Row.nil _ _,HPS3.out,HT3.out,rfl⟩
 case round=>
  clear HPS3 HT3 HZ3 HF3;obtain ⟨sel,ts,v,q,hpq,hlen,hsel,hpos,hf,hz,hrow,hps,htr,hgo⟩:=hrel;obtain ⟨ra,rc,rfl⟩:=hrow.form;have HPS:=zH hps;have HTR:=zH htr;have HFV:=zH hf;have HZ:=zH hz;have HR:=zH hrow;have HGO:=zH hgo;have hqN:=hps.le;rw[HN.out] at hqN;have hpl2:=hps.lft;rw[HPB.out,HN.out] at hpl2;have hpl3:=zH hpl2;have hgw:=hf.size;have KN1:=zH (KX.out wr q hps)
  have HLQ:Hid ((rest P q).length<=n):=zH (by have h1:=HLEN.out;rw[zar,HN.out] at h1 ⊢;omega)
  clear hps htr hf hz hrow hgo hpl2;cases hb1:hd 2 (rest P q) with
  | false=>
   have e1:=nxt_no (k:=2) (by decide) hb1
   have hqp:q≠p:=fun e=>by subst e;rw[HH.out] at hb1;cases hb1
   have hsz:sel.size≠0:=by omega
   have HG2:Hid (G=some (eMsg sel (toEs ts),rest P q)):=zH (by rw[HG.out,HGO.out,key_stop hb1];simp only;rw[if_neg hsz]);clear hb1;generalize nxt (rest P q)=t at *;go_wp2_with fail
   refine KN1.out.mono ?_;rintro e w4 ⟨rfl,hb4⟩;have HPS4:=zH (HPS.out.below hb4);have HT4:=zH (HTR.out.below hb4);have HR4:=zH (HR.out.below hb4);obtain ⟨hszz,y0,y1,y2,y3,y4,yfz⟩:=HZ.out.step hb4;obtain ⟨hs5,f0,f1,f2,f3,f4,ffz⟩:=HFV.out.step hb4;clear hb4 KN1;go_wp2_with fail
   have hb9:=zah (zB w.heap.size w4) (B:=w.heap.size) (zL _) (.int .i64 6) (.string sel) (.int .i64 0) (.slice none 0 0) (.slice ra ts.length rc);refine bodyPost_ret (v:=.agg #[.int .i64 6,.string sel,.int .i64 0,.slice none 0 0,.slice ra ts.length rc]) (by simp[results,Tryz.results166,go_sem, *]) rfl ?_;have hnode:=HR4.out.node (k:=6) (n:=0) (s:=sel) (by rfl) (by rfl) (by unfold maxLen;omega)
   exact .inl ⟨.mk 6 sel 0 [] (.slice none 0 0) (.slice ra ts.length rc) ts,q,rfl,(Own.put5 hnode (B:=w.heap.size) (fun hm=>by have:=hnode.lo _ hm;omega) _ _ _ _ _).mono (by omega),HPS4.out.low hb9 HLO.out,HT4.out.low hb9,by rw[HG2.out];rfl⟩
  | true=>
   have HB1:=zH hb1;have e1:((nxt (rest P q)).kind==2)=true:=by rw[nxt_eq hb1];rfl
   have hq1:=hd_lt' hb1;rw[HN.out] at hq1;have htx:=text_le (p:=q) HFT.out;have htp:=HTWO.out q hb1;clear hb1;generalize nxt (rest P q)=t at *;go_wp2_with fail
   refine KN1.out.mono ?_;rintro e w4 ⟨rfl,hb4⟩;have HPS4:=zH (HPS.out.below hb4);have HT4:=zH (HTR.out.below hb4);have HZ4:=zH (HZ.out.step hb4);have HR4:=zH (HR.out.below hb4);have HF4:=zH (HFV.out.step hb4);obtain ⟨hs5,f0,f1,f2,f3,f4,ffz⟩:=HFV.out.step hb4;have KT4:=fun k=>zH (KT.out (w4.drewN k) q (HPS4.out.below (zai w4 k)) HB1.out)
   clear hb4 KN1;generalize hxx:txt (rest P q)=x at *;have HXX:=zH hxx;clear hxx;go_wp2_with fail
   go_region_with (
    go_at_call 108
    refine (KT4 _).out.mono ?_;rintro e w5 ⟨rfl,h5,ht5⟩;have HPS5:=zH h5;have HT5:=zH (HT4.out.trans (((Turn.refl P w4).below (zai w4 _)).trans ht5));have htd:=((Turn.refl P w4).below (zai w4 _)).trans ht5;have HZ5:=zH (HZ4.out.turn htd (by rw[HPB.out];omega));have HF5:=zH (HF4.out.turn htd (by rw[HPB.out];omega));have HR5:=zH (HR4.out.turn htd (by rw[HPB.out];omega))
    obtain ⟨hs6,g0,g1,g2,g3,g4,gfz⟩:=HF4.out.turn htd (by rw[HPB.out];omega);clear h5 ht5 htd)
   all_goals
    have hbs:Below (w.heap.size+1) w5 (w5.setCell ⟨w.heap.size+1,1,none⟩ (.string (sel++x))):=(zB _ _).setCell (by show w.heap.size+1<=w.heap.size+1;omega) _;have HPS6:=zH (HPS5.out.low hbs (HLO.out.le (Nat.le_succ _)));have HT6:=zH (HT5.out.low (hbs.mono (Nat.le_succ _)));have HZ6:=zH (HZ5.out.low hbs (Nat.lt_succ_self _));have HF6:=zH (five_set1 HF5.out (.string (sel++x)))
    have HR6:=zH (HR5.out.frame fun b hb=>set_heap w5 (w.heap.size+1) 1 (.string (sel++x)) (by have:=(HR5.out.lt b hb).1;omega))
    have hw6:(w5.setCell ⟨w.heap.size+1,1,none⟩ (.string (sel++x))).heap.size=w5.heap.size:=by simp[World.setCell]
    have KB6:=fun k=>zH (KB.out ((w5.setCell ⟨w.heap.size+1,1,none⟩ (.string (sel++x))).drewN k) (q+1) (HPS6.out.below (zai _ k)) (by have h1:=HLQ.out;rw[zar,HN.out] at h1 ⊢;omega))
    obtain ⟨hs6',f0,f1,f2,f3,f4,ffz⟩:=HF6.out;clear hbs g0 g1 g2 g3 g4 gfz KT4;generalize w5.setCell ⟨w.heap.size+1,1,none⟩ (.string (sel++x))=w6 at *;go_wp2_with fail
    cases hbn:drop2 (binary (expr n) (rest P (q+1))) with
    | none=>
     rw[hbn] at KB6
     have KB7:=fun k=>zH ((KB6 k).out.mono (R':=fun e w'=>Dead e/\Turn P (w6.drewN k) w') (by
      rintro e w' (⟨t,q,-,-,-,-,h⟩|⟨h1,h2,-⟩)
      ·cases h
      ·exact ⟨h1,h2⟩))
     have HG2:Hid (G=none):=zH (by have h1:=drop2_none hbn;rw[HG.out,HGO.out,key_none HB1.out (by rw[zak];exact h1)])
     clear hbn KB6;refine wp_region_any (by kernel_rfl) ?_
     try (change wpAny _ _ _ _ _ _ _ (World.drew _))
     refine wpAny_take (i:=0) (v:=?_) rfl (by kernel_rfl) (by kernel_rfl) (by kernel_rfl) (fun _ _ _ h=>h) (Or.inl ⟨by rfl,?_⟩) ?_
     rotate_left
     ·intro w
      go_simp
      try with_reducible rfl
     refine wpAny_take (i:=2) (v:=?_) rfl (by kernel_rfl) (by kernel_rfl) (by kernel_rfl) (fun _ _ _ h=>h) (Or.inl ⟨by rfl,?_⟩) ?_
     rotate_left
     ·intro w
      go_simp
      try with_reducible rfl
     refine wpAny_ready (rs:=[1,3]) (by kernel_rfl) (by simp) ?_;refine AllReady.cons rfl (fun K hK=>?_) ?_
     ·go_simp
      refine hK _ _ ?_;clear hK K;refine wpAny_ready (rs:=[3]) (by kernel_rfl) (by simp) ?_;refine AllReady.cons rfl (fun K hK=>?_) AllReady.nil
      go_simp
      refine (KB7 _).out.mono ?_;rintro e w7 ⟨⟨v,rfl⟩,ht7⟩;have HT7:=zH (HT6.out.trans (((Turn.refl P w6).below (zai w6 _)).trans ht7));clear ht7;exact ⟨rfl,.inr ⟨⟨_,rfl⟩,HT7.out,HG2.out⟩⟩
     ·refine AllReady.cons rfl (fun K hK=>?_) AllReady.nil
      go_simp
      refine (KB7 _).out.mono ?_;rintro e w7 ⟨⟨v,rfl⟩,ht7⟩;have HT7:=zH (HT6.out.trans (((Turn.refl P w6).below (zai w6 _)).trans ht7));clear ht7;exact ⟨rfl,.inr ⟨⟨_,rfl⟩,HT7.out,HG2.out⟩⟩
    | some y=>
     obtain ⟨a,r1⟩:=y;rw[hbn] at KB6
     have KB7:=fun k=>zH ((KB6 k).out.mono (R':=fun e w'=>∃ t q,e=.returned (agg t)/\Own w6.heap.size w' t/\IS P q w'/\Turn P (w6.drewN k) w'/\some (a,r1)=some (toE t,rest P q)) (by
      rintro e w' (h|⟨-,-,h⟩)
      ·exact h
      ·cases h))
     have HRL:=zH (fun b hb=>(HR6.out.lt b hb).2)
     have HQ7:Hid (∀ (u:T) (q7:Nat),some (a,r1)=some (toE u,rest P q7)->q+1<q7):=zH (fun u q7 he=>by cases he;obtain ⟨s',hs'⟩:=drop2_some hbn;have h1:=binary_lt (zat n) hs';rw[zar,zar,HN.out] at h1;omega)
     have HKG:Hid (∀ (u:T) (q7:Nat),some (a,r1)=some (toE u,rest P q7)->keyLoop (expr n) none_ [] (rest P p)=keyLoop (expr n) (sel++x) (toEs (ts++[u])) (rest P q7)):=zH (fun u q7 he=>by cases he;obtain ⟨s',hs'⟩:=drop2_some hbn;rw[HGO.out,key_go (zat n) HB1.out (by rw[zak];exact hs'),HXX.out,toEs_append];rfl)
     clear hbn;have g4:∀ k,(w6.drewN k).cell? ⟨w.heap.size+1,4,none⟩=some (.slice ra ts.length rc):=fun k=>cell_keep (zai w6 k) f4
     have gz4:∀ k,(w6.drewN k).frozen? ⟨w.heap.size+1,4,none⟩=false:=fun k=>((zai w6 k).frozen (p:=⟨w.heap.size+1,4,none⟩) hs6').trans (ffz 4)
     go_region_law
      (first
      | (
       rw[if_pos (by rfl)];unfold Oper.wp
       go_simp
       refine (KB7 _).out.mono ?_;rintro e w7 ⟨u,q7,rfl,ho7,h7,ht7,hg7⟩;unfold agg;have htd:=((Turn.refl P w6).below (zai w6 _)).trans ht7;have HPS7:=zH h7;have HT7:=zH (HT6.out.trans htd);have HZ7:=zH (HZ6.out.turn htd (by rw[HPB.out];omega));have HF7:=zH (HF6.out.turn htd (by rw[HPB.out];omega));have HR7:=zH (HR6.out.turn htd (by rw[HPB.out];omega));have HO7:=zH ho7
       have HG7:=zH hg7;have k4:=HF7.out.z4;have k5:=HF7.out.fz 4;have hsf:=HF7.out.size;have a4:∀ o,(w7.alloc o).cell? ⟨w.heap.size+1,4,none⟩=some (.slice ra ts.length rc):=fun o=>cell_keep ((zB _ _).alloc (zL _) o) k4
       have a5:∀ o,(w7.alloc o).frozen? ⟨w.heap.size+1,4,none⟩=false:=fun o=>(((zB w7.heap.size w7).alloc (zL _) o).frozen (p:=⟨w.heap.size+1,4,none⟩) hsf).trans k5
       have a6:∀ o,(w7.alloc o).drew.cell? ⟨w.heap.size+1,4,none⟩=some (.slice ra ts.length rc):=fun o=>a4 o
       have a7:∀ o,(w7.alloc o).drew.frozen? ⟨w.heap.size+1,4,none⟩=false:=fun o=>a5 o
       have hs67:=htd.size;have HSP:Hid (w.heap.size+2<=w7.heap.size):=zH (by show _<=_;omega);have hsp:=HSP.out;clear h7 ht7 htd ho7 hg7)
      | (
       refine step_append_lies _ (by rfl) _ _ _ (by rfl) (w.heap.size+2) 27 i0 (.agg #[.int .i64 0,.string ByteArray.empty,.int .i64 0,.slice none 0 0,.slice none 0 0]) 5 80 Tryz.underlying25 hi hz0 hz1 hz2 rfl (by decide) _ ts.length (row ts) (by rfl) (own_keep HR7.out.own (by first|exact (zB _ _).alloc (zL _) _|exact ((zB _ _).alloc (zL _) _).drew|exact ((zB _ _).drew).alloc (zL _) _))
        ⟨w7.heap.size,0,none⟩ 1 1 (row [u]) (by rfl) (by rfl) (World.news_of_block (cs:=#[.int .i64 u.kind,.string u.text,.int .i64 u.num,u.vn,u.vk]) (t:=27) (fr:=(0,0)) (heap_alloc_new w7 _)) (goods_one ⟨HO7.out.good,trivial⟩)
        (by omega) (by unfold maxLen;omega) (by omega) (by simp;omega) (w7.heap.size+1) (by simp) ?_
       intro g cap w8 hown hgrow hat hlt
       have hne:some (w.heap.size+1)≠(Value.slice ra ts.length rc).ownBlock:=fun e=>by have:=(own_blk HR7.out.own (w.heap.size+1) (by unfold blk;rw[<-e];simp)).1;omega
       have HF8:=zH ((HF7.out.step (by first|exact (zB _ _).alloc (zL _) _|exact ((zB _ _).alloc (zL _) _).drew|exact ((zB _ _).drew).alloc (zL _) _)).same hgrow.size (hgrow.block _ (by simp;omega) hne))
       have m4:=HF8.out.z4;have m5:=HF8.out.fz 4))
     all_goals
      obtain ⟨hgb,hgl⟩:w.heap.size+2<=g/\g<w8.heap.size:=hown.lt g rfl;have hw7:(w7.alloc (.cells #[.int .i64 u.kind,.string u.text,.int .i64 u.num,u.vn,u.vk] 27)).heap.size=w7.heap.size+1:=by simp
      have HROW:=zH (HR7.out.app (o:=.cells #[.int .i64 u.kind,.string u.text,.int .i64 u.num,u.vn,u.vk] 27) HO7.out (by omega) HRL.out hown hgrow (by
       rcases hat with e|e
       ·exact .inl e.symm
       ·exact .inr (by rw[e];rfl)))
      have hbw:Below (w.heap.size+2) w7 w8:=app_low (base:=w.heap.size+2) hsp HR7.out.own hgrow;have HBW:=zH hbw;have hq7:=HQ7.out _ _ HG7.out;have HPQ:=HPS7.out.le;rw[HN.out] at HPQ;have hbs8:Below (w.heap.size+1) w8 (w8.setCell ⟨w.heap.size+1,4,none⟩ (.slice (some ⟨g,0,none⟩) (ts.length+1) cap)):=(zB _ _).setCell (by show w.heap.size+1<=w.heap.size+1;omega) _;have hb1:=(hbw.mono (Nat.le_succ _)).trans hbs8
      have HPS9:=zH (HPS7.out.low hb1 (HLO.out.le (Nat.le_succ _)));have HT9:=zH (HT7.out.low (hb1.mono (Nat.le_succ _)));have HZ9:=zH (HZ7.out.low hb1 (Nat.lt_succ_self _));have HF9:=zH (five_set4 HF8.out (.slice (some ⟨g,0,none⟩) (ts.length+1) cap));have HR9:=zH (HROW.out.frame fun b hb=>set_heap w8 (w.heap.size+1) 4 (.slice (some ⟨g,0,none⟩) (ts.length+1) cap) (by have:=(HROW.out.lt b hb).1;omega))
      have HGN:=zH (HKG.out _ _ HG7.out);clear hbw hbs8 hb1 hown hgrow hat KB7 KB6 m4 m5 k4 k5 a4 a5 a6 a7 g4 gz4 f0 f1 f2 f3 f4 ffz HF8 hne;go_wp2_with fail
      go_roundw
      case rel=>exact ⟨sel++x,ts++[u],_,q7,by omega,by simp;omega,by rw[ByteArray.size_append];omega,.inr (by rw[ByteArray.size_append];omega),HF9.out,HZ9.out,HR9.out,HPS9.out,HT9.out,HGN.out⟩
      case measure=>have h1:=HPS9.out.lft;rw[HPB.out,HN.out] at h1;rw[h1,hpl3.out];omega
end ParI
namespace ParI
open Go.RowKit
open Strs Tree Gram Placed
open Go.Proofs.YtbigfeblomfflaaGreatDoor.Parser
theorem un_flag:∀ (r:R) (e:E) (s:Bool),(unLoop e s r).2.1=(s||decide ((unLoop e s r).2.2.length<r.length))
 | [],e,s=>by simp[unLoop]
 | t::r,e,s=>by
  rw[unLoop];by_cases hk:t.kind=1
  ·rw[if_pos hk,un_flag r (eSend e t.text []) true]
   have h1:=unLoop_le r (eSend e t.text []) true;have h2:decide ((unLoop (eSend e t.text []) true r).2.2.length<(t::r).length)=true:=decide_eq_true (by simp;omega);rw[h2,Bool.true_or,Bool.or_true]
  ·rw[if_neg hk]
   have h2:decide ((t::r).length<(t::r).length)=false:=decide_eq_false (Nat.lt_irrefl _);show s=(s||decide ((t::r).length<(t::r).length))
   rw[h2,Bool.or_false]
theorem bin_flag {ex:X}:∀ (m:Nat) (r:R) (e e':E) (s s':Bool) (r1:R),r.length<=m->binLoop ex e s r=some (e',s',r1)->s'=(s||decide (r1.length<r.length)):=by
 intro m
 induction m with
 | zero=>intro r e e' s s' r1 hm h;have:r=[]:=List.eq_nil_of_length_eq_zero (by omega);subst this;rw[bin_stop rfl] at h;cases h;simp
 | succ m ih=>
  intro r e e' s s' r1 hm h;rw[binLoop] at h
  split at h
  ·split at h
   ·cases h
   ·split at h
    ·rename_i hlt
     have h1:=ih _ _ _ _ _ _ (by omega) h;have h2:=binLoop_le _ _ _ _ _ _ _ (zL _) h;have h3:decide (r1.length<r.length)=true:=decide_eq_true (by omega);rw[h1,h3,Bool.true_or,Bool.or_true]
    ·cases h
  ·cases h
   have h3:decide (r.length<r.length)=false:=decide_eq_false (Nat.lt_irrefl _);rw[h3,Bool.or_false]
theorem key_more {ex:X}:∀ (m:Nat) (r:R) (s s':ByteArray) (xs xs':List E) (r1:R),r.length<=m->keyLoop ex s xs r=some (s',xs',r1)->s.size<=s'.size/\hd 2 r1=false:=by
 intro m
 induction m with
 | zero=>intro r s s' xs xs' r1 hm h;have:r=[]:=List.eq_nil_of_length_eq_zero (by omega);subst this;rw[key_stop rfl] at h;cases h;exact ⟨zL _,rfl⟩
 | succ m ih=>
  intro r s s' xs xs' r1 hm h;rw[keyLoop] at h
  split at h
  ·split at h
   ·cases h
   ·split at h
    ·rename_i hlt
     have h1:=ih _ _ _ _ _ _ (by omega) h;rw[ByteArray.size_append] at h1;exact ⟨by omega,h1.2⟩
    ·cases h
  ·rename_i hh
   cases h;exact ⟨zL _,Bool.eq_false_iff.2 hh⟩
theorem key_first {ex:X} {r r1:R} {s':ByteArray} {xs':List E} (h:hd 2 r=true) (hp:0<(txt r).size) (h2:keyLoop ex none_ [] r=some (s',xs',r1)):s'.size≠0/\hd 2 r1=false/\r1.length<r.length:=by
 rw[keyLoop,if_pos h] at h2
 split at h2
 ·cases h2
 ·split at h2
  ·rename_i hlt
   have h1:=key_more _ _ _ _ _ _ _ (zL _) h2;have h3:=keyLoop_le _ _ _ _ _ _ _ (zL _) h2;rw[ByteArray.size_append] at h1;exact ⟨by omega,h1.2,by omega⟩
  ·cases h2
theorem sLoop_le {ex:X} (hx:Short ex) {k:Int}:∀ (m:Nat) (r:R) (e e':E) (r1:R),r.length<=m->sLoop ex k e r=some (e',r1)->r1.length<=r.length/\(r1.length=r.length->e'=e)/\(r1.length≠r.length->Sent e'):=by
 intro m
 induction m with
 | zero=>intro r e e' r1 hm h;have:r=[]:=List.eq_nil_of_length_eq_zero (by omega);subst this;rw[s_stop rfl] at h;cases h;exact ⟨zL _,fun _=>rfl,fun h=>absurd rfl h⟩
 | succ m ih=>
  intro r e e' r1 hm h;cases hh:hd k r with
  | false=>rw[s_stop hh] at h;cases h;exact ⟨zL _,fun _=>rfl,fun h=>absurd rfl h⟩
  | true=>
   cases hmm:message ex r with
   | none=>rw[s_none hh hmm] at h;cases h
   | some y=>
    obtain ⟨a,r2⟩:=y;have hl:=message_lt hx hmm;rw[s_go hx hh hmm] at h;have h1:=ih _ _ _ _ (by omega) h;refine ⟨by omega,fun h=>by omega,fun _=>?_⟩
    by_cases he:r1.length=r2.length
    ·rw[h1.2.1 he];exact ⟨_,_,_,rfl⟩
    ·exact h1.2.2 he
theorem expr_prim {ex:X} {r:R} (ha:asg r=false) (h:primary ex r=none):exprF ex r=none:=
 expr_bad ha (by unfold binary unary;rw[h])
theorem expr_un {ex:X} (hx:Short ex) {e:E} {r:R}:sLoop ex 1 e r≠none:=by rw[un_sLoop hx _ r e false (zL _)];intro h;cases h
theorem expr_bin {ex:X} (hx:Short ex) {r r0 r1:R} {e0 e1:E} (ha:asg r=false) (h0:primary ex r=some (e0,r0)) (h1:sLoop ex 1 e0 r0=some (e1,r1)) (h6:sLoop ex 6 e1 r1=none):exprF ex r=none:=by refine expr_bad ha (drop2_none ?_);rw[binary_s hx,unary_s hx,h0];simp only[h1,h6]
theorem bin_whole {ex:X} (hx:Short ex) {r r0 r1 r2:R} {e0 e1 e2:E} (h0:primary ex r=some (e0,r0)) (h1:sLoop ex 1 e0 r0=some (e1,r1)) (h6:sLoop ex 6 e1 r1=some (e2,r2)):
  binary ex r=some (e2,decide (r2.length<r0.length),r2):=by
 have hu:unary ex r=some (unLoop e0 false r0):=by unfold unary;rw[h0]
 rw[un_sLoop hx _ r0 e0 false (zL _)] at h1;have hf:=un_flag r0 e0 false;have hl:=unLoop_le r0 e0 false;generalize unLoop e0 false r0=y at *;obtain ⟨a,s,b⟩:=y;simp only[Option.some.injEq,Prod.mk.injEq] at h1 hf hl;obtain ⟨rfl,rfl⟩:=h1;rw[bin_sLoop hx _ b a s (zL _)] at h6;obtain ⟨s',h6⟩:=drop2_some h6;have hf2:=bin_flag _ _ _ _ _ _ _ (zL _) h6;have hl2:=binLoop_le _ _ _ _ _ _ _ (zL _) h6
 unfold binary;rw[hu];simp only;rw[h6]
 have e:s'=decide (r2.length<r0.length):=by
  rw[hf2,hf,Bool.false_or];by_cases h:r2.length<r0.length
  ·rw[decide_eq_true h]
   by_cases h3:b.length<r0.length
   ·rw[decide_eq_true h3,Bool.true_or]
   ·rw[decide_eq_true (show r2.length<b.length by omega),Bool.or_true]
  ·rw[decide_eq_false h,decide_eq_false (show ¬b.length<r0.length by omega),decide_eq_false (show ¬r2.length<b.length by omega)]
   rfl
 rw[e]
def after (ex:X) (n:Nat) (e:E) (r:R):Option (E×R):=
 if mk cSemi r=true then (if r.length=n then none else cascade ex e true r) else some (e,r)
theorem expr_key0 {ex:X} (hx:Short ex) {r r0 r1 r2:R} {e0 e1 e2:E} (ha:asg r=false) (h0:primary ex r=some (e0,r0)) (h1:sLoop ex 1 e0 r0=some (e1,r1)) (h6:sLoop ex 6 e1 r1=some (e2,r2)) (hp:hd 2 r2=true->0<(txt r2).size) (h2:sLoop ex 2 e2 r2=none):exprF ex r=none:=by
 have hb:=bin_whole hx h0 h1 h6;cases hh:hd 2 r2 with
 | false=>rw[s_stop hh] at h2;cases h2
 | true=>
  have hm:=mess_key (ex:=ex) hh;cases hk:keyLoop ex none_ [] r2 with
  | none=>exact expr_key ha hb hk
  | some y=>obtain ⟨sel,args,r3⟩:=y;have hf:=key_first hh (hp hh) hk;rw[hk] at hm;simp only at hm;rw[if_neg hf.1] at hm;rw[s_go hx hh hm,s_stop hf.2.1] at h2;cases h2
theorem expr_all2 {ex:X} (hx:Short ex) {r r0 r1 r2 r3:R} {e0 e1 e2 e3:E} (ha:asg r=false) (h0:primary ex r=some (e0,r0)) (h1:sLoop ex 1 e0 r0=some (e1,r1)) (h6:sLoop ex 6 e1 r1=some (e2,r2)) (hp:hd 2 r2=true->0<(txt r2).size) (h2:sLoop ex 2 e2 r2=some (e3,r3)):exprF ex r=after ex r0.length e3 r3:=by
 have hb:=bin_whole hx h0 h1 h6;have l1:=(sLoop_le hx _ _ _ _ _ (zL _) h1).1;have l6:=(sLoop_le hx _ _ _ _ _ (zL _) h6).1;unfold after;cases hh:hd 2 r2 with
 | false=>
  rw[s_stop hh] at h2;cases h2;rw[expr_go ha hb (key_stop hh),if_pos (show none_.size=0 from rfl)]
  by_cases hs:mk cSemi r2=true
  ·rw[if_pos hs]
   by_cases hl:r2.length=r0.length
   ·rw[if_pos hl,decide_eq_false (by omega),cascade_unsent hs]
   ·rw[if_neg hl,decide_eq_true (by omega)]
  ·rw[if_neg hs,cascade_no (by simpa using hs)]
 | true=>
  have hm:=mess_key (ex:=ex) hh;cases hk:keyLoop ex none_ [] r2 with
  | none=>rw[hk] at hm;rw[s_none hh hm] at h2;cases h2
  | some y=>
   obtain ⟨sel,args,r4⟩:=y;have hf:=key_first hh (hp hh) hk;rw[hk] at hm;simp only at hm;rw[if_neg hf.1] at hm;rw[s_go hx hh hm,s_stop hf.2.1] at h2;cases h2;rw[expr_go ha hb hk,if_neg hf.1];by_cases hs:mk cSemi r3=true
   ·rw[if_pos hs,if_neg (by omega)]
    rfl
   ·rw[if_neg hs,cascade_no (by simpa using hs)]
    rfl
theorem expr_sent {ex:X} (hx:Short ex) {r0 r1 r2 r3:R} {e0 e1 e2 e3:E} (h1:sLoop ex 1 e0 r0=some (e1,r1)) (h6:sLoop ex 6 e1 r1=some (e2,r2)) (h2:sLoop ex 2 e2 r2=some (e3,r3)) (hl:r3.length≠r0.length):Sent e3/\r3.length<r0.length:=by
 have l1:=sLoop_le hx _ _ _ _ _ (zL _) h1;have l6:=sLoop_le hx _ _ _ _ _ (zL _) h6;have l2:=sLoop_le hx _ _ _ _ _ (zL _) h2;refine ⟨?_,by omega⟩
 by_cases a:r3.length=r2.length
 ·rw[l2.2.1 a]
  by_cases b:r2.length=r1.length
  ·rw[l6.2.1 b]
   exact l1.2.2 (by omega)
  ·exact l6.2.2 b
 ·exact l2.2.2 a
theorem after_stop {ex:X} {n:Nat} {e:E} {r:R} (h:mk cSemi r=false):after ex n e r=some (e,r):=by rw[after,if_neg (by rw[h];simp)]
theorem after_bad {ex:X} {n:Nat} {e:E} {r:R} (h:mk cSemi r=true) (hl:r.length=n):after ex n e r=none:=by rw[after,if_pos h,if_pos hl]
theorem after_cas {ex:X} {n:Nat} {e:E} {r:R} (h:mk cSemi r=true) (hl:r.length≠n):after ex n e r=cascade ex e true r:=by rw[after,if_pos h,if_neg hl]
end ParI
namespace ParI
open Go.RowKit
open Strs Tree Gram Placed
open Go.Proofs.YtbigfeblomfflaaGreatDoor.Parser
theorem mess_no {ex:X} {r:R} (h1:hd 1 r=false) (h6:hd 6 r=false) (h2:hd 2 r=false):message ex r=none:=by rw[message,if_neg (by rw[h1];simp),if_neg (by rw[h6];simp),key_stop h2];rfl
theorem message_no {P:Cst} {p:Nat} {w:World} (h:IS P p w) (h1:hd 1 (rest P p)=false) (h6:hd 6 (rest P p)=false) (h2:hd 2 (rest P p)=false):
  Calls Tryz.prog 166 #[.pointer (some ⟨P.pb,0,none⟩)] w fun e w'=>Dead e/\Turn P w w':=by
 have hfd:=field0;have hbz:Below w.heap.size w (w.alloc (.cells #[.int .i64 0,.string ⟨#[]⟩,.int .i64 0,.slice none 0 0,.slice none 0 0] 27)):=(zB _ _).alloc (zL _) _;have hbe:Below (w.alloc (.cells #[.int .i64 0,.string ⟨#[]⟩,.int .i64 0,.slice none 0 0,.slice none 0 0] 27)).heap.size (w.alloc (.cells #[.int .i64 0,.string ⟨#[]⟩,.int .i64 0,.slice none 0 0,.slice none 0 0] 27)) ((w.alloc (.cells #[.int .i64 0,.string ⟨#[]⟩,.int .i64 0,.slice none 0 0,.slice none 0 0] 27)).alloc (.cells #[.int .i64 6,.string ⟨#[]⟩,.int .i64 0,.slice none 0 0,.slice none 0 0] 27)):=(zB _ _).alloc (zL _) _
 have hb2:=hbz.trans (hbe.mono hbz.size);have h3:=h.below hb2;have KN:=zH (next_any h3);have HT:=zH ((Turn.refl P w).low hb2);have e1:=nxt_no (k:=1) (by decide) h1;have e6:=nxt_no (k:=6) (by decide) h6;have e2:=nxt_no (k:=2) (by decide) h2;clear h h1 h6 h2 hbz hbe hb2 h3;generalize hpb:P.pb=pb at *;generalize nxt (rest P p)=t at *;obtain ⟨tk,tt,tn⟩:=t;simp only at e1 e2 e6;go_enter Tryz.func166,Tryz.ntmps166
 go_wp2_with fail
 refine KN.out.mono ?_;rintro e w3 ⟨rfl,hb3⟩;have HT3:=zH (HT.out.below hb3);clear hb3 KN;go_wp2_with fail
 exact ⟨rfl,⟨_,rfl⟩,HT3.out⟩
theorem message_any {n:Nat} (hx:XI n) {P:Cst} {p:Nat} {w:World} (h:IS P p w) (hn:(rest P p).length<=n):
  Calls Tryz.prog 166 #[.pointer (some ⟨P.pb,0,none⟩)] w (IBack P w (message (expr n) (rest P p))):=by
 cases h1:hd 1 (rest P p) with
 | true=>exact message_1 n P p w h hn h1
 | false=>
 cases h6:hd 6 (rest P p) with
 | true=>exact message_6 hx P p w h hn h6
 | false=>
 cases h2:hd 2 (rest P p) with
 | true=>exact message_2 hx P p w h hn h2
 | false=>refine (message_no h h1 h6 h2).mono ?_;rintro e w' ⟨h3,h4⟩;exact .inr ⟨h3,h4,mess_no h1 h6 h2⟩
end ParI
namespace ParI
open Go.RowKit
open Strs Tree Gram Placed
open Go.Proofs.YtbigfeblomfflaaGreatDoor.Parser
theorem step_append_new {P:Program} {w:World} {ops:Array Oper} {o:Oper} {a:Act} {K:Act->World->Prop} {Q:Exit->Act->World->Prop} {E:Prop} (hgd:o.guard=none) (s x:Operand) (t:TypeId)
  (ho:o.op=.call { callee:=.builtin .append,args:=#[s,x],argTypes:=#[t,t] })
  (base:Nat) (e:TypeId) (i:TypeInfo) (z:Value) (size bytes:Nat) (ht:P.underlying t=some (.slice e)) (hi:P.info? e=some i) (hz:i.zero=some z)
  (hsize:i.size=size) (hby:i.bytes=bytes) (hzs:z.cells.size=size) (hsz:0<size) (hs:a.eval s=.slice none 0 0)
  (ad:Addr) (m c:Nat) (news:List Value) (hx:a.eval x=.slice (some ad) m c) (hl:news.length=m*size) (hnews:∀ j u,news[j]?=some u->w.cell? (ad.add j)=some u) (h1:∀ u∈news,u.oneCell'=true)
  (h63:m<=maxLen) (hbytes:m*bytes<=140737488355328) (hbase:base<=w.heap.size) (H:Nat) (hH:w.heap.size=H)
  (h:∀ fa fc w',w'.ownsRow base e size (.slice fa m fc) m news->w.grownBy w' none->(∀ b,b∈blk (.slice fa m fc)->b=H)->K (a.put o.dst (.slice fa m fc)) w'):
  if Region.wanted o (yielded ops a.tmps)=true then Oper.wp P o a w K Q else E:=by
 have hw:Region.wanted o (yielded ops a.tmps)=true:=by simp[Region.wanted,hgd]
 rw[if_pos hw];obtain ⟨v',w',hr,h2,h3,-,h5⟩:=run_append_own_at (P:=P) w base t o.type e i z size bytes ht hi hz hsize hby hzs hsz (.slice none 0 0) 0 [] (nil_row _ _ _) ad m c news hl hnews h1 (by omega) (by rw[Nat.zero_add];exact hbytes) hbase;rw[Nat.zero_add,List.nil_append] at h2;obtain ⟨fa,fc,rfl⟩:=Kit.zax h2;unfold Oper.wp execOp;simp only[ho,resolve,invoke,builtin,Sem.run_bind,Sem.run_pure,Result.andThen_ok,List.map_toArray,List.map_cons,List.map_nil,hs,hx,hr]
 refine h fa fc w' h2 h3 fun b hb=>?_
 unfold blk at hb;rcases h5 with h5|h5
 ·rw[h5] at hb
  simp[Value.ownBlock] at hb
 ·rw[h5] at hb
  simp at hb;omega
theorem lit2_row {base:Nat} {w:World} {t m:T} (h:Own base w t) (k:Own base w m) (hd:∀ b,b∈foot t->b∉foot m) (hlo:base<=w.heap.size):
  Row base (w.alloc (.cells #[.int .i64 t.kind,.string t.text,.int .i64 t.num,t.vn,t.vk,.int .i64 m.kind,.string m.text,.int .i64 m.num,m.vn,m.vk] 27)) [t,m] (.slice (some ⟨w.heap.size,0,none⟩) 2 2):=by
 have hb:Below w.heap.size w (w.alloc (.cells #[.int .i64 t.kind,.string t.text,.int .i64 t.num,t.vn,t.vk,.int .i64 m.kind,.string m.text,.int .i64 m.num,m.vn,m.vk] 27)):=(zB _ _).alloc (zL _) _;have hown:=World.ownsRow_lit (base:=base) (e:=27) (size:=5) w #[.int .i64 t.kind,.string t.text,.int .i64 t.num,t.vn,t.vk,.int .i64 m.kind,.string m.text,.int .i64 m.num,m.vn,m.vk] 2 hlo (by unfold maxLen;omega) rfl
 refine ⟨hown,((h.below hb).one).append ((k.below hb).one) fun b h1 h2=>?_,fun b hm hf=>?_⟩
 ·rw[foots,foots,List.append_nil] at h1 h2
  exact hd b h1 h2
 ·simp[blk,Value.ownBlock] at hm
  rw[foots,foots,foots,List.append_nil] at hf;rcases List.mem_append.1 hf with hf|hf
  ·have:=h.lt b hf;omega
  ·have:=k.lt b hf;omega
def casOut (g:Option (List E×R)):Option (E×R):=
 match g with
 | none=>none
 | some (ks,r1)=>some (.mk 7 none_ 0 [] ks,r1)
theorem cascade_sent {ex:X} {e:E} {s:ByteArray} {args:List E} {r:R} (h:mk cSemi r=true):cascade ex (eSend e s args) true r=casOut (casLoop ex [e,eMsg s args] r):=by
 rw[cascade,if_pos h,if_pos rfl];show (match casLoop ex [e,eMsg s args] r with|none=>none|some (ks,r1)=>some (E.mk 7 none_ 0 [] ks,r1))=_
 rfl
theorem sLoop_light {ex:X} (hx:Light ex) (hs:Short ex) {k:Int}:∀ (m:Nat) (r:R) (e e':E) (r1:R),r.length<=m->sLoop ex k e r=some (e',r1)->weight e'+cost r1<=weight e+cost r:=by
 intro m
 induction m with
 | zero=>intro r e e' r1 hm h;have:r=[]:=List.eq_nil_of_length_eq_zero (by omega);subst this;rw[s_stop rfl] at h;cases h;exact zL _
 | succ m ih=>
  intro r e e' r1 hm h;cases hh:hd k r with
  | false=>rw[s_stop hh] at h;cases h;exact zL _
  | true=>
   cases hmm:message ex r with
   | none=>rw[s_none hh hmm] at h;cases h
   | some y=>obtain ⟨a,r2⟩:=y;have hl:=message_lt hs hmm;have hw:=message_light hx hs hmm;rw[s_go hs hh hmm] at h;have h1:=ih _ _ _ _ (by omega) h;obtain ⟨s,args,rfl⟩:=message_form hmm;rw[weight_msg] at hw;have e1:weight (eSend e (eMsg s args).text (eMsg s args).kids)=s.size+(1+args.length)+(weight e+weights args):=weight_send e s args;rw[e1] at h1;omega
theorem sent_few {P:Cst} (hf:Fit P) {q:Nat} {n:Nat} {r0 r1 r2 r3:R} {e0 e1 e2 e:E} {s:ByteArray} {args:List E} (h0:primary (expr n) (rest P q)=some (e0,r0)) (h1:sLoop (expr n) 1 e0 r0=some (e1,r1)) (h6:sLoop (expr n) 6 e1 r1=some (e2,r2)) (h2:sLoop (expr n) 2 e2 r2=some (eSend e s args,r3)):
  args.length<=3300000/\s.size<=3300000:=by
 have hl:=expr_light n;have hs:=zat n;have k0:=primary_light hl hs h0;have k1:=sLoop_light hl hs _ _ _ _ _ (zL _) h1;have k6:=sLoop_light hl hs _ _ _ _ _ (zL _) h6;have k2:=sLoop_light hl hs _ _ _ _ _ (zL _) h2;have hc:=cost_fit hf q;rw[weight_send] at k2;omega
end ParI
end Go.Proofs.YtbigfeblomfflaaGreatDoor
