/-
  MarkTop
-/
import Derived.Test.YtlmhgeanknhcfaaGreatDoorB16
import Derived.Test.YtlmhgeanknhcfaaGreatDoorVHeldTree
import Derived.Test.YtlmhgeanknhcfaaGreatDoorVXtParseExpr
namespace Go.Proofs.YtlmhgeanknhcfaaGreatDoor.Placed
set_option maxHeartbeats 8000000
set_option maxRecDepth 10000
open Go.RowKit
open Strs Tree
open ParI (Row zbm)
def zkw (k:Nat):T->T
 | .mk kd tx nm ns vn vk ks=>.mk kd tx nm (marks k ns.length) vn vk (zac (k+ns.length) ks)
def zgb:T->Nat
 | .mk _ _ _ ns _ _ ks=>ns.length+zba ks
theorem zyl (k:Nat) (t:T):foot (zkw k t)=foot t:=by cases t;rw[zkw,foot,foot,zbq]
theorem zxo:∀ t:T,zgb t<=3*weight (toE t):=by
 refine ind fun kd tx nm ns vn vk ks ih=>?_
 have h:∀ l:List T,(∀ e,e∈l->zgb e<=3*weight (toE e))->zba l<=3*(l.length+weights (zg2 l)):=by
  intro l
  induction l with
  | nil=>intro _;simp[zba]
  | cons a l ih2=>
   intro hl;have h1:=hl a (by simp);have h2:=ih2 fun e he=>hl e (by simp[he])
   have h3:cnt a=3+zgb a:=by cases a;rw[cnt,zgb];omega
   rw[zba,zg2,weights,List.length_cons,h3];omega
 have h1:=h ks ih;rw[zgb,toE,weight,zdw];omega
theorem z8o {base k:Nat} {t:T} {w:World} (ho:Own base w t) (hk:0<k) (hkn:k+zgb t<=4611686018427387904):
  Calls Tryz.prog 10 #[agg t,.int .i64 (k:Int)] w fun e w'=>e=.returned (.int .i64 ((k+zgb t:Nat):Int))/\Own base w' (zkw k t)/\Exc (foot t) w w':=by
 obtain ⟨va,vc,vb,vd,hf1,hf2⟩:=zbm ho.good;obtain ⟨uk,ut,un,uns,uvn,uvk,uks⟩:=t;simp only[T.vn,T.vk,T.names,T.kids] at hf1 hf2;subst hf1 hf2;rw[zgb] at hkn;unfold agg;simp only[T.kind,T.text,T.num,T.vn,T.vk];have hba:Below w.heap.size w (w.alloc (.cells #[.int .i64 uk,.string ut,.int .i64 un,.slice va uns.length vc,.slice vb uks.length vd] 25)):=(zB _ _).alloc (zL _) _;have ho1:=ho.below hba
 have hnames:=(zfy.1 ho1.good).names;simp only[T.names,T.vn] at hnames;have KN:=zH (zjm (k:=k) hnames hk (by omega));have c4:(w.alloc (.cells #[.int .i64 uk,.string ut,.int .i64 un,.slice va uns.length vc,.slice vb uks.length vd] 25)).cell? ⟨w.heap.size,4,none⟩=some (.slice vb uks.length vd):=by go_simp
 have HC4:=zH c4;have HO1:=zH ho1;have HBA:=zH hba
 have HLT:Hid (∀ b,b∈foot (T.mk uk ut un uns (.slice va uns.length vc) (.slice vb uks.length vd) uks)->b≠w.heap.size):=zH (fun b hb=>by have:=ho.lt b hb;omega)
 clear ho hba ho1 c4 hnames;go_enter Tryz.func10,Tryz.ntmps10;go_wp2_with fail
 refine KN.out.mono ?_;rintro e w2 ⟨rfl,hn2,hx2⟩;have hg2:=zrc HO1.out.good HO1.out.nd hx2 (ziq k uns.length) (zdd _ _) hn2;have ho2:Own base w2 (T.mk uk ut un (marks k uns.length) (.slice va uns.length vc) (.slice vb uks.length vd) uks):=⟨hg2,by rw[foot];have:=HO1.out.nd;rw[foot] at this;exact this,fun b hb=>HO1.out.lo b (by rw[foot] at hb ⊢;exact hb)⟩
 have hws:(w.alloc (.cells #[.int .i64 uk,.string ut,.int .i64 un,.slice va uns.length vc,.slice vb uks.length vd] 25)).heap.size=w.heap.size+1:=by simp
 have c4:w2.cell? ⟨w.heap.size,4,none⟩=some (.slice vb uks.length vd):=(World.cell?_of_block (a:=⟨w.heap.size,4,none⟩) (hx2.block w.heap.size (by rw[hws];omega) (fun e=>HLT.out _ (by rw[foot];exact List.mem_append_left _ e) rfl))).trans HC4.out
 have HX2:=zH (hx2.mono (F':=foot (T.mk uk ut un uns (.slice va uns.length vc) (.slice vb uks.length vd) uks)) fun b hb=>by rw[foot];exact List.mem_append_left _ hb)
 obtain ⟨hk1,hk2,hk3⟩:=ho2.kids;generalize hm:k+uns.length=m at *;have HM:=zH hm;clear hm;have KK:=zH (ztq uks base m (.slice vb uks.length vd) w2 ⟨hk1,hk2,hk3⟩ (by have:=HM.out;omega) (by have:=HM.out;omega));have HO2:=zH ho2;clear hn2 hx2 hg2 ho2 hk1 hk2 hk3 KN HC4 hws;go_wp2_with fail
 refine KK.out.mono ?_;rintro e w3 ⟨rfl,hr3,hx3⟩;have hg3:=zug HO2.out.good HO2.out.nd hx3 hr3
 have ho3:Own base w3 (zkw k (T.mk uk ut un uns (.slice va uns.length vc) (.slice vb uks.length vd) uks)):=by
  refine ⟨?_,by rw[zyl];exact HO1.out.nd,by rw[zyl];exact HO1.out.lo⟩
  rw[zkw,HM.out];exact hg3
 have HO3:=zH ho3;have HX3:=zH (((Exc.refl (foot (T.mk uk ut un uns (.slice va uns.length vc) (.slice vb uks.length vd) uks)) w).below HBA.out).trans (HX2.out.trans (hx3.mono fun b hb=>by rw[foot];rw[List.mem_append] at hb ⊢;exact .inr (List.mem_append.2 hb))))
 have HE:Hid (m+zba uks=k+zgb (T.mk uk ut un uns (.slice va uns.length vc) (.slice vb uks.length vd) uks)):=zH (by rw[zgb];have:=HM.out;omega)
 clear hr3 hx3 hg3 ho3 KK;go_wp2_with fail
 go_ret;exact ⟨by rw[<-HE.out];rfl,HO3.out,HX3.out⟩
theorem zys {base k:Nat} {t:T} {w:World} (ho:Own base w (zkw k t)) (hk:0<k) (hkn:k+zgb t<=4611686018427387904):
  Calls Tryz.prog 11 #[agg t,.int .i64 (k:Int)] w fun e w'=>e=.returned (.int .i64 ((k+zgb t:Nat):Int))/\Below w.heap.size w w':=by
 obtain ⟨va,vc,vb,vd,hf1,hf2⟩:=zbm ho.good;obtain ⟨uk,ut,un,uns,uvn,uvk,uks⟩:=t;rw[zkw] at hf1 hf2 ho;simp only[T.vn,T.vk,T.names,T.kids,zdd,zbr] at hf1 hf2;subst hf1 hf2;rw[zgb] at hkn;unfold agg;simp only[T.kind,T.text,T.num,T.vn,T.vk];have hba:Below w.heap.size w (w.alloc (.cells #[.int .i64 uk,.string ut,.int .i64 un,.slice va uns.length vc,.slice vb uks.length vd] 25)):=(zB _ _).alloc (zL _) _
 have ho1:=ho.below hba;have hnames:=(zfy.1 ho1.good).names;simp only[T.names,T.vn,zdd] at hnames;have KN:=zH (zj3 (k:=k) hnames hk (by omega));have c4:(w.alloc (.cells #[.int .i64 uk,.string ut,.int .i64 un,.slice va uns.length vc,.slice vb uks.length vd] 25)).cell? ⟨w.heap.size,4,none⟩=some (.slice vb uks.length vd):=by go_simp
 have HC4:=zH c4;have HO1:=zH ho1;have HBA:=zH hba;clear ho hba ho1 c4 hnames;go_enter Tryz.func11,Tryz.ntmps11;go_wp2_with fail
 refine KN.out.mono ?_;rintro e w2 ⟨rfl,hb2⟩;have c4:=cell_keep hb2 HC4.out;have hb3:=HBA.out.trans (hb2.mono HBA.out.size);have HB3:=zH hb3;obtain ⟨hk1,hk2,hk3⟩:=(HO1.out.below hb2).kids;have hmp:0<k+uns.length:=by omega
 generalize hm:k+uns.length=m at *;have HM:=zH hm;clear hm;have KK:=zH (zvh uks base m (.slice vb uks.length vd) w2 ⟨hk1,hk2,hk3⟩ hmp (by have:=HM.out;omega));have hm0:¬((m:Int)<0):=by omega
 clear hb2 hb3 hk1 hk2 hk3 KN HC4;go_wp2_with fail
 refine KK.out.mono ?_;rintro e w3 ⟨rfl,hb3⟩;have HB4:=zH (HB3.out.trans (hb3.mono HB3.out.size))
 have HE:Hid (m+zba uks=k+zgb (T.mk uk ut un uns (.slice va uns.length vc) (.slice vb uks.length vd) uks)):=zH (by rw[zgb];have:=HM.out;omega)
 generalize hz:m+zba uks=z at *;have HZ:=zH hz;clear hz;have hz0:¬((z:Int)<0):=by omega
 clear hb3 KK c4;go_wp2_with fail
 go_ret;exact ⟨by rw[<-HE.out];rfl,HB4.out⟩
end Go.Proofs.YtlmhgeanknhcfaaGreatDoor.Placed
