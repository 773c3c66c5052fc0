/-
  MarkTreeW
-/
import Derived.Test.YtlmhgeanknhcfaaGreatDoorB16
import Derived.Test.YtlmhgeanknhcfaaGreatDoorVMarkTree
import Derived.Test.YtlmhgeanknhcfaaGreatDoorB26
import Derived.Test.YtlmhgeanknhcfaaGreatDoorVXtParseExpr
namespace Go.Proofs.YtlmhgeanknhcfaaGreatDoor.Placed
set_option maxHeartbeats 8000000
set_option maxRecDepth 10000
open Go.RowKit
open Strs Tree
open ParI (Row zbm)
theorem zqc (a:Option Addr) (c:Nat) (K:Int) (w:World):
  Calls Tryz.prog 36 #[.slice a 0 c,.int .i64 K] w fun e w'=>e=.returned (.int .i64 K)/\Below w.heap.size w w':=by
 go_enter Tryz.func36,Tryz.ntmps36;go_wp2_with fail
 refine wp_loop_rounds 1 ?_;rw[rounds_succ];go_wp2_with fail
 go_ret;exact ⟨rfl,zB _ _⟩
theorem zyy (n:Nat) (h:n<=4611686018427387904):(Lit.int .i64 (n:Nat)).wf=true:=by
 have e1:IntKind.min .i64 = -9223372036854775808:=by decide
 have e2:IntKind.max .i64=9223372036854775807:=by decide
 rw[Lit.wf_int_iff,e1,e2];omega
theorem ze3 (n:Int):(Mark.mark n).size<=maxLen:=by
 have h:=Num.zr7 n.natAbs
 have e:(Mark.mark n).size=(Num.zxx n.natAbs).length+1:=by
  show ((109::Num.zxx n.natAbs).toArray).size=_
  simp
 rw[e];unfold maxLen;omega
theorem ziq (k n:Nat):∀ x,x∈marks k n->x.size<=maxLen:=by
 induction n with
 | zero=>intro x hx;cases hx
 | succ n ih=>
  intro x hx;rw[marks] at hx;rcases List.mem_append.1 hx with h|h
  ·exact ih x h
  ·rw[List.mem_singleton.1 h]
   exact ze3 _
theorem zrc {w w':World} {k n:Int} {s:ByteArray} {ns ns':List ByteArray} {vn vk:Value} {ks:List T} (h:Good w (.mk k s n ns vn vk ks)) (hnd:(foot (.mk k s n ns vn vk ks)).Nodup) (hx:Exc (blk vn) w w') (hs:∀ x,x∈ns'->x.size<=maxLen) (hl:ns'.length=ns.length) (ho:w'.ownsRow 0 9 1 vn ns.length (ns'.map Value.string)):
  Good w' (.mk k s n ns' vn vk ks):=by
 rw[Good] at h ⊢;obtain ⟨h1,h2,h3,h4,h5,h6,h7⟩:=h;rw[foot,List.nodup_append] at hnd;rw[hl];exact ⟨h1,h2,h3,hs,ho,hx.own h6 (fun b hb hc=>hnd.2.2 b hc b (by simp[hb]) rfl),hx.ycy h7 (fun b hb hc=>hnd.2.2 b hc b (by simp[hb]) rfl)⟩
theorem zug {base:Nat} {w w':World} {k n:Int} {s:ByteArray} {ns:List ByteArray} {vn vk:Value} {ks ks':List T} (h:Good w (.mk k s n ns vn vk ks)) (hnd:(foot (.mk k s n ns vn vk ks)).Nodup) (hx:Exc (blk vk++zah ks) w w') (hr:Row base w' ks' vk):Good w' (.mk k s n ns vn vk ks'):=by rw[Good] at h ⊢;obtain ⟨h1,h2,h3,h4,h5,h6,h7⟩:=h;rw[foot,List.nodup_append] at hnd;exact ⟨h1,h2,h3,h4,hx.own h5 (fun b hb hc=>hnd.2.2 b hb b hc rfl),zlw hr.own,hr.kids.good⟩
theorem ze9 {base:Nat} {w:World} {A B:List T} {t:T} {g c n:Nat} (h:Row base w (A++t::B) (.slice (some ⟨g,0,none⟩) n c)) (j:Nat) (hj:j<5):w.cell? ⟨g,A.length*5+j,none⟩=(cells t)[j]?/\w.frozen? ⟨g,A.length*5+j,none⟩=false:=by
 have hl:A.length*5+j<(A++t::B).length*5:=by simp;omega
 have h1:=h.own
 have hn:n=(A++t::B).length:=by
  obtain ⟨-,⟨hv,-⟩|⟨g',cap,cur,hv,-⟩⟩:=h1
  ·cases hv
  ·cases hv;rfl
 subst hn;refine ⟨?_,h1.frozenAt _⟩;rw[h1.cellAt _ hl,z4y A B t j hj]
theorem ztn {ts:List T} (ih:∀ t,t∈ts->zy7 t.kids):zy7 ts:=by
 intro base k v w hrow hk hkn;have hcase:=ParI.zl6 hrow.own;rcases hcase with ⟨hv,hn0⟩|⟨g,c,hv⟩
 ·subst hv
  have hts:ts=[]:=List.eq_nil_of_length_eq_zero hn0;subst hts;refine (zqc none 0 k w).mono ?_;rintro e w' ⟨rfl,hb⟩;exact ⟨rfl,Row.nil _ _,(Exc.refl _ _).below hb⟩
 subst hv
 have hroom:ts.length<=maxLen:=by
  obtain ⟨-,⟨hv,-⟩|⟨g',cap,cur,hv,-,-,h1,h2,-⟩⟩:=hrow.own
  ·cases hv
  ·exact Nat.le_trans h1 h2
 unfold maxLen at hroom;have HROW:=zH hrow;have IH:=zH ih;clear ih hrow;generalize hn:ts.length=n at *;have HN:=zH hn;clear hn;go_enter Tryz.func36,Tryz.ntmps36;go_wp2_with fail
 go_loopw [1,5] (fun q j wr=>∃ D R:List T,ts=D++R/\j=.int .i64 (D.length:Int)/\q=.int .i64 ((k+zba D:Nat):Int)/\Row base wr (zac k D++R) (.slice (some ⟨g,0,none⟩) n c)/\Exc (blk (.slice (some ⟨g,0,none⟩) n c)++zah ts) w wr) (fun _ j _=>n-(intOf j).toNat)
 case atStart=>exact ⟨[],ts,rfl,rfl,rfl,HROW.out,Exc.refl _ _⟩
 case round=>
  clear HROW;obtain ⟨D,R,hts,rfl,rfl,hrow,hexc⟩:=hrel;have HTS:=zH hts;have HROW:=zH hrow;have HEXC:=zH hexc;clear hts hrow hexc;generalize hi:D.length=i at *;have HI:=zH hi;clear hi;generalize hq:k+zba D=q at *;have HQ:=zH hq;clear hq;cases R with
  | nil=>
   have hin:i=n:=by rw[<-HI.out,<-HN.out,HTS.out,List.append_nil]
   have hqq:q=k+zba ts:=by rw[<-HQ.out,HTS.out,List.append_nil]
   have hlt:¬((i:Int)<(n:Int)):=by omega
   have HQQ:=zH hqq;clear hqq;clear hin;go_wp2_with fail
   go_ret;refine ⟨by rw[HQQ.out];rfl,?_,HEXC.out⟩
   have h1:=HROW.out;rw[List.append_nil] at h1;rw[HTS.out,List.append_nil];exact h1
  | cons t B=>
   have hlt:(i:Int)<(n:Int):=by have h1:=HN.out;rw[HTS.out] at h1;simp at h1;have:=HI.out;omega
   have hqb:q+cnt t<=4611686018427387904:=by have h1:=hkn;rw[HTS.out,zaz,zba] at h1;have:=HQ.out;omega
   have hqp:0<q:=by have:=HQ.out;omega
   have hal:(zac k D).length=i:=by rw[zbr,HI.out]
   have hlen:(zac k D++t::B).length=n:=by rw[List.length_append,hal,<-HN.out,HTS.out,List.length_append,HI.out]
   have HAL:=zH hal;have HLEN:=zH hlen;have hot:=zhs HROW.out;have KIH:=zH (IH.out t (by rw[HTS.out];simp));obtain ⟨va,vc,vb,vd,hf1,hf2⟩:=zbm hot.good;obtain ⟨uk,ut,un,uns,uvn,uvk,uks⟩:=t;simp only[T.vn,T.vk,T.names,T.kids] at hf1 hf2 KIH;subst hf1 hf2;rw[cnt] at hqb;obtain ⟨c0,z0⟩:=ze9 HROW.out 0 (by decide);rw[hal] at c0 z0;replace c0:wr.cell? ⟨g,i*5,none⟩=some (.int .i64 uk):=c0
   replace z0:wr.frozen? ⟨g,i*5,none⟩=false:=z0;clear hal hlen;have hgd:=zfy.1 hot.good
   have hgt:∀ w',Good w' (.mk uk ut un uns (.slice va uns.length vc) (.slice vb uks.length vd) uks)->Good w' (.mk (q:Int) ut un uns (.slice va uns.length vc) (.slice vb uks.length vd) uks):=fun w' h=>by rw[Good] at h ⊢;exact ⟨zyy q (by omega),h.2⟩
   have hr1:=zed (.mk (q:Int) ut un uns (.slice va uns.length vc) (.slice vb uks.length vd) uks) HROW.out HLEN.out (j:=0) (u:=.int .i64 (q:Int)) (by decide) rfl rfl (hgt _ hot.good);rw[HAL.out] at hr1;replace hr1:Row base (wr.setCell ⟨g,i*5,none⟩ (.int .i64 (q:Int))) (zac k D++T.mk (q:Int) ut un uns (.slice va uns.length vc) (.slice vb uks.length vd) uks::B) (.slice (some ⟨g,0,none⟩) n c):=hr1
   have HR1:=zH hr1;have hgf:g∈blk (.slice (some ⟨g,0,none⟩) n c)++zah ts:=by simp[blk,Value.ownBlock]
   have HX1:Hid (Exc (blk (.slice (some ⟨g,0,none⟩) n c)++zah ts) w (wr.setCell ⟨g,i*5,none⟩ (.int .i64 (q:Int)))):=zH (HEXC.out.set _ hgf);clear hr1 hot hgd hgt HROW HEXC;go_wp2_with fail
   refine (Mark.zcv ((q:Int)+1) _ (by omega) (by omega)).mono ?_;rintro e w2 ⟨rfl,hb2⟩;have HR2:=zH (HR1.out.below hb2);have HX2:=zH (HX1.out.below hb2);obtain ⟨c1,z1⟩:=ze9 HR2.out 1 (by decide);obtain ⟨c2,z2⟩:=ze9 HR2.out 2 (by decide);obtain ⟨c3,z3⟩:=ze9 HR2.out 3 (by decide);rw[HAL.out] at c1 z1 c2 z2 c3 z3;replace c1:w2.cell? ⟨g,i*5+1,none⟩=some (.string ut):=c1;replace c2:w2.cell? ⟨g,i*5+2,none⟩=some (.int .i64 un):=c2
   replace c3:w2.cell? ⟨g,i*5+3,none⟩=some (.slice va uns.length vc):=c3;clear hb2 HR1 HX1 c0 z0 z3;have hms:(Mark.mark ((q:Int)+1)).size<=maxLen:=ze3 _;generalize hmk:Mark.mark ((q:Int)+1)=mk at *;have HMK:=zH hmk;clear hmk
   have hg2:Good w2 (T.mk (q:Int) mk un uns (.slice va uns.length vc) (.slice vb uks.length vd) uks):=by have h:=(zhs HR2.out).good;rw[Good] at h ⊢;exact ⟨h.1,h.2.1,hms,h.2.2.2⟩
   have hr2:=zed (T.mk (q:Int) mk un uns (.slice va uns.length vc) (.slice vb uks.length vd) uks) HR2.out (by rw[zr4 _ _ _ (T.mk (q:Int) ut un uns (.slice va uns.length vc) (.slice vb uks.length vd) uks)] at *;exact HLEN.out) (j:=1) (u:=.string mk) (by decide) rfl rfl hg2
   rw[HAL.out] at hr2
   have hlen2:(zac k D++(T.mk (q:Int) mk un uns (.slice va uns.length vc) (.slice vb uks.length vd) uks)::B).length=n:=by
    have:=HLEN.out
    simpa using this
   have hg3:Good (w2.setCell ⟨g,i*5+1,none⟩ (.string mk)) (T.mk (q:Int) mk ((q:Int)+1+1) uns (.slice va uns.length vc) (.slice vb uks.length vd) uks):=by have h:=(zhs hr2).good;rw[Good] at h ⊢;exact ⟨h.1,zyy (q+2) (by omega),h.2.2⟩
   have hr3:=zed (T.mk (q:Int) mk ((q:Int)+1+1) uns (.slice va uns.length vc) (.slice vb uks.length vd) uks) hr2 hlen2 (j:=2) (u:=.int .i64 ((q:Int)+1+1)) (by decide) rfl rfl hg3;rw[HAL.out] at hr3;obtain ⟨w3,hw3⟩:∃ w3,w3=(w2.setCell ⟨g,i*5+1,none⟩ (.string mk)).setCell ⟨g,i*5+2,none⟩ (.int .i64 ((q:Int)+1+1)):=⟨_,rfl⟩;have HX3:Hid (Exc (blk (.slice (some ⟨g,0,none⟩) n c)++zah ts) w w3):=zH (by rw[hw3];exact (HX2.out.set _ hgf).set _ hgf)
   rw[<-hw3] at hr3;have hot3:=zhs hr3
   have KN:Hid (Calls Tryz.prog 35 #[.slice va uns.length vc,.int .i64 ((q:Int)+1+1+1)] w3 fun e w'=>e=.returned (.int .i64 ((q+3+uns.length:Nat):Int))/\w'.ownsRow 0 9 1 (.slice va uns.length vc) uns.length ((marks (q+3) uns.length).map Value.string)/\Exc (blk (.slice va uns.length vc)) w3 w'):=zH (by
    have h:=zjm (k:=q+3) (zfy.1 hot3.good).names (by omega) (by show q+3+uns.length<=_;omega);rw[show ((q+3:Nat):Int)=(q:Int)+1+1+1 by omega] at h
    exact h)
   have HR3:=zH hr3;have HW3:=zH hw3;clear hg2 hr2 hlen2 hg3 hr3 hot3 hw3 HX2 HR2
   go_upto_region 10 with fail
   rw[<-HW3.out];obtain ⟨c3',-⟩:=ze9 HR3.out 3 (by decide);rw[HAL.out] at c3';replace c3':w3.cell? ⟨g,i*5+3,none⟩=some (.slice va uns.length vc):=c3';clear c1 z1 c2 z2 c3 HW3;go_wp2_with fail
   refine KN.out.mono ?_;rintro e w4 ⟨rfl,hn4,hx4⟩;have hot3:=zhs HR3.out;have hg4:=zrc hot3.good hot3.nd hx4 (ziq (q+3) uns.length) (zdd _ _) hn4;have hr4:=zer (T.mk (q:Int) mk ((q:Int)+1+1) (marks (q+3) uns.length) (.slice va uns.length vc) (.slice vb uks.length vd) uks) HR3.out rfl rfl hg4 hx4 (fun b hb=>by rw[foot];simp[hb])
   have hfs:∀ b,b∈foot (T.mk uk ut un uns (.slice va uns.length vc) (.slice vb uks.length vd) uks)->b∈(blk (.slice (some ⟨g,0,none⟩) n c)++zah ts):=fun b hb=>by rw[HTS.out,zfa];simp[hb]
   have HFS:=zH hfs;have HX4:=zH (HX3.out.trans (hx4.mono fun b hb=>hfs b (by rw[foot];simp[hb])))
   obtain ⟨c4,-⟩:=ze9 hr4 4 (by decide);rw[HAL.out] at c4;replace c4:w4.cell? ⟨g,i*5+4,none⟩=some (.slice vb uks.length vd):=c4;generalize hm:q+3+uns.length=m at *;have HM:=zH hm;clear hm;obtain ⟨hk1,hk2,hk3⟩:=(zhs hr4).kids;have KK:=zH (KIH.out base m (.slice vb uks.length vd) w4 ⟨hk1,hk2,hk3⟩ (by have:=HM.out;omega) (by have:=HM.out;omega));have HR4:=zH hr4;clear hn4 hx4 hot3 hg4 hr4 hfs hk1 hk2 hk3 KN KIH HR3 HX3 c3'
   go_wp2_with fail
   refine KK.out.mono ?_;rintro e w5 ⟨rfl,hr5,hx5⟩;have hot4:=zhs HR4.out;have hg5:=zug hot4.good hot4.nd hx5 hr5;have hr6:=zer (T.mk (q:Int) mk ((q:Int)+1+1) (marks (q+3) uns.length) (.slice va uns.length vc) (.slice vb uks.length vd) (zac m uks)) HR4.out rfl (by rw[foot,foot,zbq]) hg5 hx5 (fun b hb=>by rw[foot];rw[List.mem_append] at hb ⊢;exact .inr (List.mem_append.2 hb))
   have HX5:=zH (HX4.out.trans (hx5.mono fun b hb=>HFS.out b (by rw[foot];rw[List.mem_append] at hb ⊢;exact .inr (List.mem_append.2 hb))))
   have he:marked q (T.mk uk ut un uns (.slice va uns.length vc) (.slice vb uks.length vd) uks)=(T.mk (q:Int) mk ((q:Int)+1+1) (marks (q+3) uns.length) (.slice va uns.length vc) (.slice vb uks.length vd) (zac m uks)):=by rw[marked,<-HMK.out,HM.out];rfl
   have hr7:Row base w5 (zac k (D++[(T.mk uk ut un uns (.slice va uns.length vc) (.slice vb uks.length vd) uks)])++B) (.slice (some ⟨g,0,none⟩) n c):=by rw[zbt,HQ.out,zac,zac,he,List.append_assoc];exact hr6
   have HR7:=zH hr7
   have HE:Hid (m+zba uks=k+zba (D++[(T.mk uk ut un uns (.slice va uns.length vc) (.slice vb uks.length vd) uks)])):=zH (by rw[zaz,zba,zba,cnt];have:=HQ.out;have:=HM.out;omega)
   clear hr5 hx5 hot4 hg5 hr6 he hr7 KK HR4 HX4 c4;go_wp2_with fail
   go_roundw
   case rel=>
    refine ⟨D++[(T.mk uk ut un uns (.slice va uns.length vc) (.slice vb uks.length vd) uks)],B,by rw[HTS.out];simp,?_,by rw[<-HE.out];rfl,HR7.out,HX5.out⟩
    rw[List.length_append,HI.out];rfl
   case measure=>simp[intOf];omega
theorem zcv:∀ t:T,zy7 t.kids:=ind fun _ _ _ _ _ _ _ ih=>ztn ih
theorem ztq (ts:List T):zy7 ts:=ztn fun t _=>zcv t
end Go.Proofs.YtlmhgeanknhcfaaGreatDoor.Placed
