/-
  ParseKids ParseSend ParseOut ParseStat
-/
import Derived.Test.YtlmhgeanknhcfaaGreatDoorB5
import Derived.Laws.AppendOwnNone
set_option maxHeartbeats 8000000
set_option maxRecDepth 10000
namespace Go.Proofs.YtlmhgeanknhcfaaGreatDoor
namespace Parser
open Go.RowKit
open Strs Tree Gram
abbrev Item:=E×Value×Value
def cells5 (x:Item):List Value:=[.int .i64 x.1.kind,.string x.1.text,.int .i64 x.1.num,x.2.1,x.2.2]
def ziy (L:List Item):List Value:=L.flatMap cells5
def zbu (L:List Item):List E:=L.map (·.1)
theorem zot (a b:List Item):ziy (a++b)=ziy a++ziy b:=by simp[ziy]
theorem zf3 (a b:List Item):zbu (a++b)=zbu a++zbu b:=by simp[zbu]
theorem zyf (L:List Item):(ziy L).length=L.length*5:=by
 induction L with
 | nil=>rfl
 | cons x L ih=>have:ziy (x::L)=cells5 x++ziy L:=rfl;rw[this,List.length_append,ih];simp[cells5];omega
def All (lo:Nat) (w:World) (L:List Item):Prop:=∀ x,x∈L->zaw lo w x.1 x.2.1 x.2.2
theorem All.keep {lo:Nat} {w w':World} {a:List Item} (h:All lo w a) (k:Kept lo w w'):All lo w' a:=fun x hx=>zaw.keep (zL _) k _ _ _ (h x hx)
theorem ydq {lo:Nat} {w:World} {b:Nat}:∀ (ks:List E) (o:Nat),Row lo w b ks o->∃ L,zbu L=ks/\All lo w L/\∀ j u,(ziy L)[j]?=some u->w.cell? ⟨b,o+j,none⟩=some u:=by
 intro ks
 induction ks with
 | nil=>intro o _;exact ⟨[],rfl,(fun _ h=>nomatch h),fun j u h=>by simp[ziy] at h⟩
 | cons e es ih=>
  intro o h;rw[Row] at h;obtain ⟨⟨vn,vk,c0,c1,c2,c3,c4,hn⟩,hr⟩:=h;obtain ⟨L,h1,h2,h3⟩:=ih _ hr;refine ⟨(e,vn,vk)::L,by simp[zbu] at h1 ⊢;exact h1,?_,?_⟩
  ·intro x hx
   rcases List.mem_cons.1 hx with rfl|hx
   ·exact hn
   ·exact h2 x hx
  ·intro j u hj
   have he:ziy ((e,vn,vk)::L)=cells5 (e,vn,vk)++ziy L:=rfl;rw[he] at hj
   match j,hj with
   | 0,hj=>simp[cells5] at hj;subst hj;exact c0
   | 1,hj=>simp[cells5] at hj;subst hj;exact c1
   | 2,hj=>simp[cells5] at hj;subst hj;exact c2
   | 3,hj=>simp[cells5] at hj;subst hj;exact c3
   | 4,hj=>simp[cells5] at hj;subst hj;exact c4
   | j+5,hj=>
    simp[cells5] at hj;have:=h3 j u hj;rw[show o+(j+5)=o+5+j by omega]
    exact this
theorem yak {lo:Nat} {w:World} {b:Nat}:∀ (L:List Item) (o:Nat),All lo w L->(∀ j u,(ziy L)[j]?=some u->w.cell? ⟨b,o+j,none⟩=some u)->Row lo w b (zbu L) o:=by
 intro L
 induction L with
 | nil=>intro o _ _;exact trivial
 | cons x L ih=>
  intro o h1 h2;have he:ziy (x::L)=cells5 x++ziy L:=rfl;rw[he] at h2;show Row lo w b (x.1::zbu L) o
  rw[Row];refine ⟨⟨x.2.1,x.2.2,h2 0 _ rfl,h2 1 _ rfl,h2 2 _ rfl,h2 3 _ rfl,h2 4 _ rfl,h1 x (by simp)⟩,ih _ (fun y hy=>h1 y (by simp[hy])) fun j u hj=>?_⟩
  have:=h2 (j+5) u (by simp[cells5];exact hj);rw[show o+5+j=o+(j+5) by omega]
  exact this
def zhb (lo:Nat) (w:World) (L:List Item) (v:Value):Prop:=
 All lo w L/\((v=.slice none 0 0/\L=[])\/∃ b o c,v=.slice (some ⟨b,o,none⟩) L.length c/\L.length<=c/\c<=maxLen/\lo<=b/\∀ j u,(ziy L)[j]?=some u->w.cell? ⟨b,o+j,none⟩=some u)
theorem zhb.nil (lo:Nat) (w:World):zhb lo w [] (.slice none 0 0):=⟨(fun _ h=>nomatch h),.inl ⟨rfl,rfl⟩⟩
theorem zhb.keep {lo:Nat} {w w':World} {L:List Item} {v:Value} (h:zhb lo w L v) (k:Kept lo w w'):zhb lo w' L v:=by
 refine ⟨h.1.keep k,?_⟩;rcases h.2 with h1|⟨b,o,c,e,m1,m2,hb,hc⟩
 ·exact .inl h1
 ·exact .inr ⟨b,o,c,e,m1,m2,hb,fun j u hj=>k b _ _ hb (hc j u hj)⟩
theorem zhb.mono {lo hi:Nat} {w:World} {L:List Item} {v:Value} (h:zhb hi w L v) (hl:lo<=hi):zhb lo w L v:=by
 refine ⟨fun x hx=>zaw.keep hl (fun _ _ _ _ hc=>hc) _ _ _ (h.1 x hx),?_⟩
 rcases h.2 with h1|⟨b,o,c,e,m1,m2,hb,hc⟩
 ·exact .inl h1
 ·exact .inr ⟨b,o,c,e,m1,m2,Nat.le_trans hl hb,hc⟩
theorem zhb.kids {lo:Nat} {w:World} {L:List Item} {v:Value} (h:zhb lo w L v):zdh lo w (zbu L) v:=by
 have hl:(zbu L).length=L.length:=by simp[zbu]
 rcases h.2 with ⟨rfl,rfl⟩|⟨b,o,c,rfl,m1,m2,hb,hc⟩
 ·exact ⟨none,0,rfl,⟨zL _,Nat.zero_le _⟩,fun h=>absurd h (by simp[zbu])⟩
 ·exact ⟨_,c,by rw[hl],⟨by omega,m2⟩,fun _=>⟨b,o,rfl,hb,yak L o h.1 hc⟩⟩
theorem zr0 {lo:Nat} {w:World} {base:Nat} {L:List Item} {v:Value} (h:w.ownsRow base 25 5 v L.length (ziy L)) (hlo:lo<=base) (ha:All lo w L):zhb lo w L v:=by
 refine ⟨ha,?_⟩;have h':=h;obtain ⟨_,⟨rfl,hn⟩|⟨g,cap,cur,rfl,hbg,hg,hnc,hcm,_,_⟩⟩:=h
 ·exact .inl ⟨rfl,List.eq_nil_of_length_eq_zero hn⟩
 ·refine .inr ⟨g,0,cap,rfl,hnc,hcm,by omega,fun j u hj=>?_⟩
  have hjl:j<L.length*5:=by have:=(List.getElem?_eq_some_iff.1 hj).1;rw[zyf] at this;exact this
  rw[Nat.zero_add,h'.cellAt j hjl];exact hj
theorem z0z {lo:Nat} {w:World} {ks:List E} {v:Value} (h:zdh lo w ks v) (h0:0<ks.length):∃ L,zbu L=ks/\zhb lo w L v:=by
 obtain ⟨a,cap,rfl,hm,hc⟩:=h;obtain ⟨b,o,rfl,hb,hr⟩:=hc h0;obtain ⟨L,h1,h2,h3⟩:=ydq ks o hr;have hl:ks.length=L.length:=by rw[<-h1];simp[zbu]
 exact ⟨L,h1,h2,.inr ⟨b,o,cap,by rw[hl],by omega,hm.2,hb,h3⟩⟩
theorem z1z (x:Item) (h:∀ u:Value,u=x.2.1\/u=x.2.2->u.oneCell'=true):∀ u:Value,u∈cells5 x->u.oneCell'=true:=by
 intro u hu;simp[cells5] at hu;rcases hu with rfl|rfl|rfl|h1|h1
 ·rfl
 ·rfl
 ·rfl
 ·exact h u (.inl h1)
 ·exact h u (.inr h1)
theorem zoa {lo:Nat} {w:World} {x:Item} (h:zaw lo w x.1 x.2.1 x.2.2):∀ u:Value,u∈cells5 x->u.oneCell'=true:=by
 refine z1z x fun u hu=>?_
 rw[zbn] at h;obtain ⟨-,-,-,⟨_,_,e1,_⟩,⟨_,_,e2,_⟩⟩:=h;rcases hu with rfl|rfl
 ·rw[e1];rfl
 ·rw[e2];rfl
theorem zcw {lo:Nat} {w:World} {e:E} {vn vk:Value} (h:zaw lo w e vn vk):∃ a n c a' n' c',vn=.slice a n c/\vk=.slice a' n' c':=by rw[zbn] at h;obtain ⟨-,-,-,⟨_,_,e1,_⟩,⟨_,_,e2,_⟩⟩:=h;exact ⟨_,_,_,_,_,_,e1,e2⟩
theorem zo6 {lo:Nat} {w:World} {L:List Item} (h:All lo w L):∀ u:Value,u∈ziy L->u.oneCell'=true:=by intro u hu;obtain ⟨x,hx,hu⟩:=List.mem_flatMap.1 hu;exact zoa (h x hx) u hu
theorem zm1 (w:World) (x:Item) (t:TypeId):∀ (j:Nat) (u:Value),(cells5 x)[j]?=some u->(w.alloc (.cells #[.int .i64 x.1.kind,.string x.1.text,.int .i64 x.1.num,x.2.1,x.2.2] t)).cell? ((⟨w.heap.size,0,none⟩:Addr).add j)=some u:=by
 intro j u hj
 match j,hj with
 | 0,hj=>simp[cells5] at hj;subst hj;simp[Addr.add]
 | 1,hj=>simp[cells5] at hj;subst hj;simp[Addr.add]
 | 2,hj=>simp[cells5] at hj;subst hj;simp[Addr.add]
 | 3,hj=>simp[cells5] at hj;subst hj;simp[Addr.add]
 | 4,hj=>simp[cells5] at hj;subst hj;simp[Addr.add]
end Parser
namespace Parser
open Go.RowKit
open Strs Tree Gram
theorem zp6:(Tryz.prog.info? 25).map (fun i=>(i.zero,i.size,i.bytes))=some (some (.agg #[.int .i64 0,.string ByteArray.empty,.int .i64 0,.slice none 0 0,.slice none 0 0]),5,80):=by kernel_rfl
theorem ze2 (lo:Nat) (w:World):zbv lo w [] (.slice none 0 0):=⟨none,0,rfl,⟨zL _,Nat.zero_le _⟩,(fun _ h=>nomatch h),fun h=>absurd h (by simp)⟩
theorem znc {lo:Nat} {w:World} {s:ByteArray} {L:List Item} {vk:Value} (h:zhb lo w L vk) (hs:s.size<=maxLen):Reads lo w (.mk 6 s 0 [] (zbu L)) (.agg #[.int .i64 6,.string s,.int .i64 0,.slice none 0 0,vk]):=
 ⟨_,_,rfl,zbn.2 ⟨by rfl,by rfl,hs,ze2 _ _,h.kids⟩⟩
theorem add_plain (b o k:Nat):(⟨b,o,none⟩:Addr).add k=⟨b,o+k,none⟩:=by unfold Addr.add;split<;>simp_all
theorem z2s (w:World) (a b:Obj) (e:E) (vn vk:Value):(((w.alloc a).alloc b).alloc (.cells #[.int .i64 e.kind,.string e.text,.int .i64 e.num,vn,vk] 25)).ownsRow (w.heap.size+1+1) 25 5 (.slice (some ⟨w.heap.size+1+1,0,none⟩) 1 1) 1 (ziy [(e,vn,vk)]):=by
 have e1:((w.alloc a).alloc b).heap.size=w.heap.size+1+1:=by simp
 have:=World.ownsRow_lit (base:=w.heap.size+1+1) (e:=25) (size:=5) ((w.alloc a).alloc b) #[.int .i64 e.kind,.string e.text,.int .i64 e.num,vn,vk] 1 (by rw[e1];exact zL _) (by unfold maxLen;omega) rfl;rw[e1] at this;exact this
theorem zk7 (w:World) (a b c:Obj):Below w.heap.size w (((w.alloc a).alloc b).alloc c):=(((zB _ _).alloc (zL _) a).alloc (by simp) b).alloc (by simp;omega) _
theorem zso {lo:Nat} {w:World} {e:E} {vn vk va:Value} {L:List Item} {s:ByteArray} (hn:zaw lo w e vn vk) (hk:zhb lo w L va) (hl:L.length<=900):
  Calls Tryz.prog 66 #[.agg #[.int .i64 e.kind,.string e.text,.int .i64 e.num,vn,vk],.string s,va] w fun r w'=>∃ vk',r=.returned (.agg #[.int .i64 6,.string s,.int .i64 0,.slice none 0 0,vk'])/\w'.ownsRow (w.heap.size+1+1) 25 5 vk' (L.length+1) (ziy ((e,vn,vk)::L))/\Below w.heap.size w w':=by
 obtain ⟨i0,hi,hz0,hz1,hz2⟩:=info_parts zp6;have HK:=zH hk;have HN:=zH hn;have h1:=zoa (x:=(e,vn,vk)) hn;have HONE:=zH h1;rcases hk.2 with ⟨rfl,rfl⟩|⟨b,o,c,rfl,m1,m2,hb,hc⟩
 ·clear hk h1 hn
  go_enter Tryz.func66,Tryz.ntmps66;go_wp2_with fail
  refine bodyPost_ret (v:=.agg #[.int .i64 6,.string s,.int .i64 0,.slice none 0 0,.slice (some ⟨w.heap.size+1+1,0,none⟩) 1 1]) (by simp[results,Tryz.results66,go_sem, *]) rfl ⟨_,rfl,?_,zk7 _ _ _ _⟩;exact z2s w _ _ e vn vk
 ·have HC:=zH hc
  have HL:=zH (zyf L);clear hk h1 hn hc;go_enter Tryz.func66,Tryz.ntmps66;go_wp2_with (at_builtin;go_must (refine wpList_append_own _ rfl _ _ 23 rfl (w.heap.size+1+1) 25 i0 (.agg #[.int .i64 0,.string ByteArray.empty,.int .i64 0,.slice none 0 0,.slice none 0 0]) 5 80 Tryz.underlying23 hi hz0 hz1 hz2 rfl (by decide) _ 1 (ziy [(e,vn,vk)]) rfl (z2s w _ _ e vn vk) ⟨b,o,none⟩ L.length c (ziy L) rfl HL.out ?c1 ?c2 ?c3 ?c4 ?c5 ?_))
  case c1=>intro j u hj;rw[add_plain];exact cell_keep (zk7 _ _ _ _) (HC.out j u hj)
  case c2=>exact zo6 HK.out.1
  case c3=>unfold maxLen;omega
  case c4=>omega
  case c5=>simp
  intro v' w4 hown hgr _
  have hz:Zero (w.heap.size+1) w4:=by
   have h0:=zcd (w.alloc (.cells #[.int .i64 e.kind,.string e.text,.int .i64 e.num,vn,vk] 25)) 25;have e1:(w.alloc (.cells #[.int .i64 e.kind,.string e.text,.int .i64 e.num,vn,vk] 25)).heap.size=w.heap.size+1:=by simp
   rw[e1] at h0;exact (h0.step ((zB _ _).alloc (zL _) _)).same hgr.size (hgr.block _ (by simp) (by simp[Value.ownBlock]))
  have HB:Hid (Below w.heap.size w w4):=zH ((zk7 _ _ _ _).grown hgr (by simp;omega) (by simp[Value.ownBlock];omega));obtain ⟨ra,rc,rfl⟩:=Kit.za5 hown;have HOWN:=zH hown;clear hown hgr;obtain ⟨hsz,z0,z1,z2,z3,z4,fz⟩:=hz;go_wp2_with fail
  refine bodyPost_ret (v:=.agg #[.int .i64 6,.string s,.int .i64 0,.slice none 0 0,.slice ra (1+L.length) rc]) (by simp[results,Tryz.results66,go_sem, *]) rfl ⟨_,rfl,?_,?_⟩
  ·have ho2:=zyh HOWN.out (B:=w.heap.size+1) (by omega) (.int .i64 6) (.string s) (.int .i64 0) (.slice none 0 0) (.slice ra (1+L.length) rc)
   rw[<-zot,Nat.add_comm 1 L.length] at ho2;rw[Nat.add_comm 1 L.length];exact ho2
  ·exact zai HB.out (B:=w.heap.size+1) (by omega) _ _ _ _ _
theorem ye9:(Tryz.prog.info? 9).map (fun i=>(i.zero,i.size,i.bytes))=some (some (.string ByteArray.empty),1,16):=by kernel_rfl
theorem zqm {w:World} {b o:Nat} {xs:List ByteArray} (h:∀ j (h:j<xs.length),w.cell? ⟨b,o+j,none⟩=some (.string xs[j])):∀ (j:Nat) (u:Value),(xs.map Value.string)[j]?=some u->w.cell? ((⟨b,o,none⟩:Addr).add j)=some u:=by intro j u hj;have hl:=(List.getElem?_eq_some_iff.1 hj).1;have hv:=(List.getElem?_eq_some_iff.1 hj).2;rw[List.length_map] at hl;rw[List.getElem_map] at hv;rw[add_plain,h j hl,hv]
theorem zr6 (xs:List ByteArray):∀ u:Value,u∈xs.map Value.string->u.oneCell'=true:=by intro u hu;obtain ⟨x,_,rfl⟩:=List.mem_map.1 hu;rfl
theorem ze8 {lo:Nat} {w:World} {ps ts:List ByteArray} {ks:List E} {vp vt vk:Value} (hp:zir lo w ps vp) (ht:zir lo w ts vt) (hk:zdh lo w ks vk) (hpl:ps.length<=800) (htl:ts.length<=800) (hlo:lo<=w.heap.size):
  Calls Tryz.prog 87 #[vp,vt,vk] w fun r w'=>∃ v',r=.returned v'/\Reads lo w' (ziw ps ts ks) v'/\Below w.heap.size w w':=by
 obtain ⟨i0,hi,hz0,hz1,hz2⟩:=info_parts ye9;have HP:=zH hp;have HT:=zH ht;have HK:=zH hk;obtain ⟨-,pb,po,pc,rfl,pm1,pm2,-,pd⟩:=hp;obtain ⟨-,tb,to,tc,rfl,tm1,tm2,-,td⟩:=ht;obtain ⟨ka,kc,rfl,km,-⟩:=hk;have PD:=zH pd;have TD:=zH td;clear pd td
 have hlit:((w.alloc (.cells #[.int .i64 0,.string ⟨#[]⟩,.int .i64 0,.slice none 0 0,.slice none 0 0] 25)).alloc (.cells #[] 9)).ownsRow (w.heap.size+1) 9 1 (.slice (some ⟨w.heap.size+1,0,none⟩) 0 0) 0 ([].map Value.string):=by
  have e1:(w.alloc (.cells #[.int .i64 0,.string ⟨#[]⟩,.int .i64 0,.slice none 0 0,.slice none 0 0] 25)).heap.size=w.heap.size+1:=by simp
  have:=World.ownsRow_lit (base:=w.heap.size+1) (e:=9) (size:=1) (w.alloc (.cells #[.int .i64 0,.string ⟨#[]⟩,.int .i64 0,.slice none 0 0,.slice none 0 0] 25)) #[] 0 (by rw[e1];exact zL _) (Nat.zero_le _) rfl;rw[e1] at this;exact this
 have hb0:Below w.heap.size w ((w.alloc (.cells #[.int .i64 0,.string ⟨#[]⟩,.int .i64 0,.slice none 0 0,.slice none 0 0] 25)).alloc (.cells #[] 9)):=((zB _ _).alloc (zL _) _).alloc (by simp) _;have hz0':Zero w.heap.size ((w.alloc (.cells #[.int .i64 0,.string ⟨#[]⟩,.int .i64 0,.slice none 0 0,.slice none 0 0] 25)).alloc (.cells #[] 9)):=(zcd w _).step ((zB _ _).alloc (zL _) _)
 have HLIT:=zH hlit;have HB0:=zH hb0;have HZ0:=zH hz0';clear hlit hb0 hz0';go_enter Tryz.func87,Tryz.ntmps87;go_wp2_with (at_builtin;go_must (refine wpList_append_own _ rfl _ _ 22 rfl (w.heap.size+1) 9 i0 (.string ByteArray.empty) 1 16 Tryz.underlying22 hi hz0 hz1 hz2 rfl (by decide) _ _ _ rfl HLIT.out ⟨pb,po,none⟩ ps.length pc (ps.map Value.string) rfl ?c0 ?c1 ?c2 ?c3 ?c4 ?c5 ?_))
 case c0=>simp
 case c1=>exact zqm fun j hj=>cell_keep HB0.out (PD.out j hj)
 case c2=>exact zr6 _
 case c3=>unfold maxLen;omega
 case c4=>omega
 case c5=>simp
 intro v1 w1 hown hgr _;have HO1:Hid (w1.ownsRow (w.heap.size+1) 9 1 v1 ps.length (ps.map Value.string)):=zH (by simpa using hown);have hb1:Below (w.heap.size+1) ((w.alloc (.cells #[.int .i64 0,.string ⟨#[]⟩,.int .i64 0,.slice none 0 0,.slice none 0 0] 25)).alloc (.cells #[] 9)) w1:=(zB _ _).grown hgr (by simp) (fun k hk=>(HLIT.out.lt k hk).1)
 have HB1:=zH (HB0.out.trans (hb1.mono (by omega)));have HZ1:=zH (HZ0.out.low hb1 (by omega));have hs1:w.heap.size+1<=w1.heap.size:=by have:=HZ1.out.size;omega
 clear hown hgr hb1;go_wp2_with (at_builtin;go_must (refine wpList_append_own _ rfl _ _ 22 rfl (w.heap.size+1) 9 i0 (.string ByteArray.empty) 1 16 Tryz.underlying22 hi hz0 hz1 hz2 rfl (by decide) _ _ _ rfl HO1.out ⟨tb,to,none⟩ ts.length tc (ts.map Value.string) rfl ?c0 ?c1 ?c2 ?c3 ?c4 ?c5 ?_))
 case c0=>simp
 case c1=>exact zqm fun j hj=>cell_keep HB1.out (TD.out j hj)
 case c2=>exact zr6 _
 case c3=>unfold maxLen;omega
 case c4=>omega
 case c5=>exact hs1
 intro v2 w2 hown hgr _;have hb2:Below (w.heap.size+1) w1 w2:=(zB _ _).grown hgr hs1 (fun k hk=>(HO1.out.lt k hk).1)
 have HB2:=zH (HB1.out.trans (hb2.mono (by omega)));obtain ⟨hsz,z0,z1,z2,z3,z4,fz⟩:=HZ1.out.low hb2 (by omega);obtain ⟨ra,rc,rfl⟩:=Kit.za5 hown;have HO2:Hid (w2.ownsRow (w.heap.size+1) 9 1 (.slice ra (ps.length+ts.length) rc) (ps++ts).length ((ps++ts).map Value.string)):=zH (by simpa using hown);clear hown hgr hb2;go_wp2_with fail
 have hbf:=zai HB2.out (B:=w.heap.size) (zL _) (.int .i64 8) (.string ⟨#[]⟩) (.int .i64 ps.length) (.slice ra (ps.length+ts.length) rc) (.slice ka ks.length kc);have hof:=zyh HO2.out (B:=w.heap.size) (by omega) (.int .i64 8) (.string ⟨#[]⟩) (.int .i64 ps.length) (.slice ra (ps.length+ts.length) rc) (.slice ka ks.length kc);refine bodyPost_ret (v:=.agg #[.int .i64 8,.string ⟨#[]⟩,.int .i64 ps.length,.slice ra (ps.length+ts.length) rc,.slice ka ks.length kc]) (by simp[results,Tryz.results87,go_sem, *]) rfl ⟨_,rfl,⟨_,_,rfl,zbn.2 ⟨by rfl,?_,Nat.zero_le _,?_,?_⟩⟩,hbf⟩
 ·show (Lit.int .i64 (ps.length:Int)).wf=true
  go_wf
 ·refine zo5 hof (by omega) fun x hx=>?_
  rcases List.mem_append.1 hx with h1|h1
  ·exact HP.out.1 x h1
  ·exact HT.out.1 x h1
 ·exact HK.out.below hbf
end Parser
namespace Parser
open Go.RowKit
open Strs Tree Gram
def yei (lo:Nat) (wr:World) (g:Option Nat) (x:Item):Prop:=
 ∃ l0 w0,lo<=l0/\zaw l0 w0 x.1 x.2.1 x.2.2/\Kept l0 w0 wr/\w0.heap.size<=wr.heap.size/\∀ k,g=some k->k<l0\/w0.heap.size<=k
structure Out (base:Nat) (wr:World) (L:List Item) (v:Value):Prop where
 own:wr.ownsRow base 25 5 v L.length (ziy L)
 nn:v≠.slice none 0 0
 apart:∀ x,x∈L->yei base wr v.ownBlock x
theorem Out.all {base:Nat} {wr:World} {L:List Item} {v:Value} (h:Out base wr L v):All base wr L:=fun x hx=>by obtain ⟨l0,w0,h1,h2,h3,-,-⟩:=h.apart x hx;exact zaw.keep h1 h3 _ _ _ h2
theorem Out.kids {base:Nat} {wr:World} {L:List Item} {v:Value} (h:Out base wr L v):zhb base wr L v:=zr0 h.own (zL _) h.all
theorem Out.form {base:Nat} {wr:World} {L:List Item} {v:Value} (h:Out base wr L v):∃ a c,v=.slice a L.length c:=Kit.za5 h.own
theorem Out.turn {P:Cst} {base:Nat} {wr w':World} {L:List Item} {v:Value} (h:Out base wr L v) (ht:za2 P wr w') (hp:P.pb<base):Out base w' L v:=by
 refine ⟨zcg h.own ht hp,h.nn,fun x hx=>?_⟩
 obtain ⟨l0,w0,h1,h2,h3,h4,h5⟩:=h.apart x hx;exact ⟨l0,w0,h1,h2,h3.trans (ht.kept.mono (by omega)),Nat.le_trans h4 ht.size,h5⟩
theorem Out.below {base:Nat} {wr w':World} {L:List Item} {v:Value} (h:Out base wr L v) (hb:Below wr.heap.size wr w'):Out base w' L v:=by
 refine ⟨own_keep h.own hb,h.nn,fun x hx=>?_⟩
 obtain ⟨l0,w0,h1,h2,h3,h4,h5⟩:=h.apart x hx;exact ⟨l0,w0,h1,h2,h3.trans (za1 hb),Nat.le_trans h4 hb.size,h5⟩
theorem Out.new (w:World):Out w.heap.size (w.alloc (.cells #[] 25)) [] (.slice (some ⟨w.heap.size,0,none⟩) 0 0):=
 ⟨World.ownsRow_lit w #[] 0 (zL _) (Nat.zero_le _) rfl,by simp,(fun _ h=>nomatch h)⟩
theorem Out.app {base l1:Nat} {wr w':World} {L:List Item} {v v':Value} {x:Item} {o:Obj} (h:Out base wr L v) (hx:zaw l1 wr x.1 x.2.1 x.2.2) (hl:base<=l1) (hg:∀ k,v.ownBlock=some k->k<l1)
  (hown:w'.ownsRow base 25 5 v' (L.length+1) (ziy L++ziy [x])) (hgr:(wr.alloc o).grownBy w' v.ownBlock) (hat:v'.ownBlock=v.ownBlock\/v'.ownBlock=some (wr.heap.size+1)) (hnn:v'≠.slice none 0 0):Out base w' (L++[x]) v':=by
 have hs:wr.heap.size<=w'.heap.size:=by have:=hgr.size;simp at this;omega
 have hcell:∀ b p u,wr.cell? ⟨b,p,none⟩=some u->some b≠v.ownBlock->w'.cell? ⟨b,p,none⟩=some u:=fun b p u hc hne=>by have hb:Below wr.heap.size wr (wr.alloc o):=(zB _ _).alloc (zL _) _;exact hgr.cell (cell_keep hb hc) hne
 have hsz:(wr.alloc o).heap.size=wr.heap.size+1:=by simp
 refine ⟨by rw[zot,List.length_append];exact hown,hnn,fun y hy=>?_⟩
 rcases List.mem_append.1 hy with hy|hy
 ·obtain ⟨l0,w0,h1,h2,h3,h4,h5⟩:=h.apart y hy
  refine ⟨l0,w0,h1,h2,fun b p u hb hc=>?_,Nat.le_trans h4 hs,fun k hk=>?_⟩
  ·refine hcell b p u (h3 b p u hb hc) fun e=>?_
   have hlt:=cell_lt hc;rcases h5 b e.symm with h6|h6
   ·omega
   ·simp at hlt;omega
  ·rcases hat with e|e
   ·rw[e] at hk;exact h5 k hk
   ·rw[e] at hk
    injection hk with hk
    exact .inr (by omega)
 ·rw[List.mem_singleton.1 hy]
  refine ⟨l1,wr,hl,hx,fun b p u hb hc=>hcell b p u hc fun e=>?_,hs,fun k hk=>?_⟩
  ·have:=hg b e.symm;omega
  ·rcases hat with e|e
   ·rw[e] at hk;exact .inl (hg k hk)
   ·rw[e] at hk
    injection hk with hk
    exact .inr (by omega)
def Got {α:Type} (b:Bool) (x:α):Option α:=if b=true then none else some x
theorem z6x {P:Cst} {α:Type} {g:Option (α×R)} {b:Bool} {t:α} {q:Nat} (h:g=Got b (t,rest P q)):(∀ t' r1,g=some (t',r1)->t=t'/\rest P q=r1/\b=false)/\(g=none->b=true):=by
 subst h;cases b with
 | true=>exact ⟨(fun _ _ e=>nomatch e),fun _=>rfl⟩
 | false=>exact ⟨fun t' r1 e=>by (cases e;exact ⟨rfl,rfl,rfl⟩),fun e=>nomatch e⟩
theorem zxd {P:Cst} {α:Type} {g:Option (α×R)} {b:Bool} {t:α} {q:Nat} (h1:∀ t' r1,g=some (t',r1)->t=t'/\rest P q=r1/\b=false) (h2:g=none->b=true):g=Got b (t,rest P q):=by
 cases g with
 | none=>rw[h2 rfl];rfl
 | some y=>obtain ⟨t',r1⟩:=y;obtain ⟨rfl,rfl,rfl⟩:=h1 _ _ rfl;rfl
def ycl (P:Cst) (w:World) (g:Option (E×R)) (e:Ending) (w':World):Prop:=
 ∃ v t q b,e=.returned v/\Reads w.heap.size w' t v/\PS P q b w'/\za2 P w w'/\g=Got b (t,rest P q)
def ydi (P:Cst) (w:World) (g:Option (E×Bool×R)) (e:Ending) (w':World):Prop:=
 ∃ v t s q b,e=.returned (.tuple #[v,.bool s])/\Reads w.heap.size w' t v/\PS P q b w'/\za2 P w w'/\g=Got b (t,s,rest P q)
def XC (n:Nat):Prop:=∀ (P:Cst) (p:Nat) (w:World),PS P p false w->(rest P p).length<n->Calls Tryz.prog 27 #[.pointer (some ⟨P.pb,0,none⟩)] w (ycl P w (expr n (rest P p)))
def left (pb N:Nat) (w:World):Nat:=match w.cell? ⟨pb,2,none⟩ with|some (.bool true)=>0|_=>1+(N-plc pb w)
theorem PS.zhh {P:Cst} {p:Nat} {w:World} (h:PS P p true w) (N:Nat):left P.pb N w=0:=by unfold left;rw[h.c2]
theorem PS.ze5 {P:Cst} {p:Nat} {w:World} (h:PS P p false w) (N:Nat):left P.pb N w=1+(N-p):=by unfold left;rw[h.c2,h.plc]
theorem zss {lo:Nat} {w:World} {t:E} {xn xk:Value} (h:zaw lo w t xn xk) (hlo:lo<=w.heap.size):zhb lo (w.alloc (.cells #[.int .i64 t.kind,.string t.text,.int .i64 t.num,xn,xk] 25)) [(t,xn,xk)] (.slice (some ⟨w.heap.size,0,none⟩) 1 1):=by
 have hb:Below w.heap.size w (w.alloc (.cells #[.int .i64 t.kind,.string t.text,.int .i64 t.num,xn,xk] 25)):=(zB _ _).alloc (zL _) _;have hown:=World.ownsRow_lit (base:=w.heap.size) (e:=25) (size:=5) w #[.int .i64 t.kind,.string t.text,.int .i64 t.num,xn,xk] 1 (zL _) (by unfold maxLen;omega) rfl;refine zr0 (base:=w.heap.size) hown hlo fun x hx=>?_
 rw[List.mem_singleton.1 hx];exact h.below hb
theorem znq {lo:Nat} {w:World} {k:Int} {x:Item} {v:Value} (hk:(Lit.int .i64 k).wf=true) (h:zhb lo w [x] v):zaw lo w (.mk k none_ 0 [] [x.1]) (.slice none 0 0) v:=
 zbn.2 ⟨hk,by rfl,Nat.zero_le _,ze2 _ _,h.kids⟩
theorem zo3 (w:World) (o:Obj) (x:Item) (t:TypeId):∀ (j:Nat) (u:Value),(cells5 x)[j]?=some u->((w.alloc o).alloc (.cells #[.int .i64 x.1.kind,.string x.1.text,.int .i64 x.1.num,x.2.1,x.2.2] t)).cell? ((⟨w.heap.size+1,0,none⟩:Addr).add j)=some u:=by
 have h:=zm1 (w.alloc o) x t;have e:(w.alloc o).heap.size=w.heap.size+1:=by simp
 rw[e] at h;exact h
theorem za2.zmu (P:Cst) (w:World) (o:Obj):za2 P w (w.alloc o):=(za2.refl P w).low ((zB _ _).alloc (zL _) _)
end Parser
namespace Parser
open Go.RowKit
open Strs Tree Gram
def z97 (P:Cst) (w:World) (g:Option (List E×R)) (e:Ending) (w':World):Prop:=
 ∃ v L q b,e=.returned v/\zhb w.heap.size w' L v/\PS P q b w'/\za2 P w w'/\g=Got b (zbu L,rest P q)
theorem zxl {r:R} (h:begins r=true):0<r.length:=by
 cases r with
 | nil=>cases h
 | cons t r=>simp
theorem z4z {ex:X} {body:List E} {r:R} (h:begins r=false):zby ex body r=some (body,r):=by rw[zby,h];rfl
theorem z4r {ex:X} {body:List E} {r:R} (h:begins r=true) (h2:mk zqf r=true) (h3:ex r.tail=none):zby ex body r=none:=by rw[zby,if_pos h,if_pos h2,h3]
theorem z5k {ex:X} {body:List E} {r:R} {e:E} {r1:R} (h:begins r=true) (h2:mk zqf r=true) (h3:ex r.tail=some (e,r1)):zby ex body r=some (body++[.mk 9 none_ 0 [] [e]],if mk zvj r1 then r1.tail else r1):=by rw[zby,if_pos h,if_pos h2,h3]
theorem z4q {ex:X} {body:List E} {r:R} (h:begins r=true) (h2:mk zqf r=false) (h3:ex r=none):zby ex body r=none:=by rw[zby,if_pos h,if_neg (by rw[h2];simp),h3]
theorem yab {ex:X} {body:List E} {r:R} {e:E} {r1:R} (h:begins r=true) (h2:mk zqf r=false) (h3:ex r=some (e,r1)) (h4:mk zvj r1=false):zby ex body r=some (body++[e],r1):=by rw[zby,if_pos h,if_neg (by rw[h2];simp),h3];simp only;rw[if_neg (by rw[h4];simp)]
theorem z1d {ex:X} (hx:zcz ex) {body:List E} {r:R} {e:E} {r1:R} (h:begins r=true) (h2:mk zqf r=false) (h3:ex r=some (e,r1)) (h4:mk zvj r1=true):zby ex body r=zby ex (body++[e]) r1.tail:=by have hlt:r1.tail.length<r.length:=Nat.lt_of_le_of_lt (zmq r1) (hx _ _ _ h3);rw[zby,if_pos h,if_neg (by rw[h2];simp),h3];simp only;rw[if_pos h4,dif_pos hlt]
theorem zrp (r:R):isB 7 ⟨#[46]⟩ r=mk zvj r:=ziv zvj (by decide) r
theorem z2f (r:R):isB 7 ⟨#[94]⟩ r=mk zqf r:=ziv zqf (by decide) r
theorem zx8 {base:Nat} {wr:World} {L:List Item} {v:Value} (h:Out base wr L v):∀ k,v.ownBlock=some k->k<wr.heap.size:=fun k hk=>(h.own.lt k hk).2
theorem z9h {P:Cst} {ex:X} {L:List Item} {q q4:Nat} {b4:Bool} {t:E} {x:Item} {G:Option (List E×R)} (hG:G=zby ex (zbu L) (rest P q)) (h1:begins (rest P q)=true) (h2:mk zqf (rest P q)=true)
  (hy:∀ t' r1,ex (rest P (q+1))=some (t',r1)->t=t'/\rest P q4=r1/\b4=false) (hn:ex (rest P (q+1))=none->b4=true) (hx:x.1=.mk 9 none_ 0 [] [t]) (q5:Nat) (h5:q5=if mk zvj (rest P q4)=true then q4+1 else q4):
  (∀ body r1,G=some (body,r1)->zbu (L++[x])=body/\rest P q5=r1/\b4=false)/\(G=none->b4=true):=by
 cases he:ex (rest P (q+1)) with
 | none=>
  rw[z4r h1 h2 (by rw[zab];exact he)] at hG;refine ⟨fun body r1 e=>?_,fun _=>hn he⟩
  rw[hG] at e;cases e
 | some y=>
  obtain ⟨t',r1⟩:=y;rw[z5k h1 h2 (by rw[zab];exact he)] at hG;obtain ⟨rfl,hr,hb⟩:=hy _ _ he;refine ⟨fun body r2 e=>?_,fun e=>?_⟩
  ·rw[hG] at e
   simp only[Option.some.injEq,Prod.mk.injEq] at e;refine ⟨?_,?_,hb⟩
   ·rw[zf3,<-e.1]
    simp[zbu,hx]
   ·rw[<-e.2,<-hr,h5]
    split
    ·rw[zab]
    ·rfl
  ·rw[hG] at e;cases e
theorem z2k {P:Cst} {ex:X} (hex:zcz ex) {L:List Item} {q q4:Nat} {b4:Bool} {t:E} {G:Option (List E×R)} (hG:G=zby ex (zbu L) (rest P q)) (h1:begins (rest P q)=true) (h2:mk zqf (rest P q)=false)
  (hy:∀ t' r1,ex (rest P q)=some (t',r1)->t=t'/\rest P q4=r1/\b4=false) (hn:ex (rest P q)=none->b4=true):
  (b4=true->G=none)/\(b4=false->q<q4/\(mk zvj (rest P q4)=false->G=some (zbu L++[t],rest P q4))/\(mk zvj (rest P q4)=true->G=zby ex (zbu L++[t]) (rest P (q4+1)))):=by
 cases he:ex (rest P q) with
 | none=>exact ⟨fun _=>hG.trans (z4q h1 h2 he),fun e=>by (rw[hn he] at e;cases e)⟩
 | some y=>
  obtain ⟨t',r1⟩:=y;obtain ⟨rfl,hr,hb⟩:=hy _ _ he;subst hr;refine ⟨fun e=>by (rw[hb] at e;cases e),fun _=>⟨?_,fun hd=>hG.trans (yab h1 h2 he hd),fun hd=>?_⟩⟩
  ·have:=hex _ _ _ he
   rw[zaf,zaf] at this;omega
  ·rw[<-zab]
   exact hG.trans (z1d hex h1 h2 he hd)
theorem ydk {P:Cst} {p:Nat} {w:World} (h:PS P p true w):
  Calls Tryz.prog 57 #[.pointer (some ⟨P.pb,0,none⟩)] w (z97 P w none):=by
 have H1:=zH (h.below ((zB _ _).alloc (zL _) (.cells #[] 25)));have hc2:=H1.out.c2;have HT:=zH (za2.zmu P w (.cells #[] 25));have HO:=zH (Out.new w);clear h;generalize hpb:P.pb=pb at *;clear hpb;go_enter Tryz.func57,Tryz.ntmps57;go_wp2_with fail
 refine wp_loop_rounds 1 ?_;rw[rounds_succ];go_wp2_with fail
 go_ret;exact ⟨_,[],p,true,rfl,HO.out.kids,H1.out,HT.out,rfl⟩
theorem yds {n:Nat} (hx:XC n) {P:Cst} {p:Nat} {w:World} (h:PS P p false w) (hn:(rest P p).length<n):
  Calls Tryz.prog 57 #[.pointer (some ⟨P.pb,0,none⟩)] w (z97 P w (zby (expr n) [] (rest P p))):=by
 obtain ⟨i0,hi,hz0,hz1,hz2⟩:=info_parts zp6;have KB:=fun (w1:World) (q:Nat) (h1:PS P q false w1)=>zH (z0m h1)
 have KT1:=fun (w1:World) (q:Nat) (b:Bool) (c:ByteArray) (h1:PS P q b w1) (hb:isB 7 c (rest P q)=true)=>zH (zcr h1 hb)
 have KT0:=fun (w1:World) (q:Nat) (b:Bool) (c:ByteArray) (h1:PS P q b w1) (hb:isB 7 c (rest P q)=false)=>zH (zfq h1 hb)
 have KX:=fun (w1:World) (q:Nat) (h1:PS P q false w1) (hl:(rest P q).length<n)=>zH (hx P q w1 h1 hl)
 have H1:=zH (h.below ((zB _ _).alloc (zL _) (.cells #[] 25)));have HT:=zH (za2.zmu P w (.cells #[] 25));have HO:=zH (Out.new w);have HLO:=zH h.lo;have hpbl:=h.size;have h8:=h.fit.len;have hpl:=h.le;have HN:=zH hn;clear h hn hx;generalize hpb:P.pb=pb at *;generalize hNN:P.toks.length=N at *;have HPB:=zH hpb;clear hpb;have HNN:=zH hNN;clear hNN
 generalize hG:zby (expr n) [] (rest P p)=G;have HG:=zH hG;clear hG;go_enter Tryz.func57,Tryz.ntmps57;go_wp2_with fail
 go_loopw [3] (fun v wr=>∃ (L:List Item) (q:Nat) (b:Bool),L.length<=N/\PS P q b wr/\za2 P w wr/\Out w.heap.size wr L v/\(b=false->p<=q/\L.length<=q/\G=zby (expr n) (zbu L) (rest P q))/\(b=true->G=none)) (fun _ wr=>left pb N wr)
 case atStart=>exact ⟨[],p,false,Nat.zero_le _,H1.out,HT.out,HO.out,fun _=>⟨zL _,Nat.zero_le _,HG.out.symm⟩,fun h=>nomatch h⟩
 case round=>
  obtain ⟨L,q,b,hLN,hps,htr,hout,hgood,hbad⟩:=hrel;have HPS:=zH hps;have HTR:=zH htr;have HOUT:=zH hout;have c2:=hps.c2;rw[HPB.out] at c2;obtain ⟨ra,rc,rfl⟩:=hout.form;have hgw:w.heap.size<=wr.heap.size:=htr.size;clear hps htr hout;cases b with
  | true=>
   have HB:=zH (hbad rfl);clear hbad hgood;go_wp2_with fail
   go_ret;exact ⟨_,L,q,true,rfl,HOUT.out.kids,HPS.out,HTR.out,HB.out⟩
  | false=>
   obtain ⟨hpq,hLq,hgo⟩:=hgood rfl;have HGO:=zH hgo;clear hgo hbad hgood;have HQL:Hid ((rest P q).length<=(rest P p).length):=zH (by rw[zaf,zaf];omega);have K:=KB wr q HPS.out;have hlf:=zH (show left pb N wr=1+(N-q) by rw[<-HPB.out];exact HPS.out.ze5 N)
   cases hbg:begins (rest P q) with
   | false=>
    rw[hbg] at K;have HG2:Hid (G=some (zbu L,rest P q)):=zH (HGO.out.trans (z4z hbg));clear hbg;go_wp2_with fail
    refine K.out.mono ?_;rintro e w2 ⟨rfl,h2,ht2⟩;have H2:=zH h2;have HT2:=zH ht2;clear h2 ht2;go_wp2_with fail
    go_ret;exact ⟨_,L,q,false,rfl,(HOUT.out.turn HT2.out (by rw[HPB.out];exact hpbl)).kids,H2.out,HTR.out.trans HT2.out,HG2.out⟩
   | true=>
    rw[hbg] at K;have HBG:=zH hbg
    have hqN:q<N:=by have h1:=zxl hbg;rw[zaf,HNN.out] at h1;omega
    clear hbg;go_wp2_with fail
    refine K.out.mono ?_;rintro e w2 ⟨rfl,h2,ht2⟩;have H2:=zH h2;have HT2:=zH ht2;have HO2:=zH (HOUT.out.turn ht2 (by rw[HPB.out];exact hpbl));clear h2 ht2 K;go_wp2_with fail
    cases hhat:isB 7 ⟨#[94]⟩ (rest P q) with
    | true=>
     refine (KT1 _ _ _ _ H2.out hhat).out.mono ?_;rintro e w3 ⟨rfl,h3,ht3⟩
     have hq1:(rest P (q+1)).length<n:=by have h1:=HN.out;have h2:=HQL.out;rw[zaf] at h1 h2 ⊢;rw[zaf] at h2;omega
     have KE:=KX w3 (q+1) h3 hq1;have HHAT:=zH (hhat.symm.trans (z2f _)).symm;have HO3:=zH (HO2.out.turn ht3 (by rw[HPB.out];exact hpbl));have HT3:=zH (HTR.out.trans (HT2.out.trans ht3));have hg3:w.heap.size<=w3.heap.size:=HT3.out.size;clear h3 ht3 hhat hq1;go_wp2_with fail
     refine KE.out.mono ?_;rintro e w4 ⟨v4,t,q4,b4,rfl,hr4,h4,ht4,hgot⟩;obtain ⟨hy4,hn4⟩:=z6x hgot;clear hgot;obtain ⟨xn,xk,rfl,hnode⟩:=hr4;have HK4:=zH (zss hnode ht4.size);have hba:Below w4.heap.size w4 (w4.alloc (.cells #[.int .i64 t.kind,.string t.text,.int .i64 t.num,xn,xk] 25)):=(zB _ _).alloc (zL _) _;have HPS4:=zH (h4.below hba);have HT4:=zH ((HT3.out.trans ht4).below hba)
     have HO4:=zH ((HO3.out.turn ht4 (by rw[HPB.out];exact hpbl)).below hba);have HY4:=zH (And.intro hy4 hn4);have HBL4:=zH (zx8 HO3.out);have hg4:w.heap.size<=w4.heap.size:=Nat.le_trans hg3 ht4.size;have hw4:(w4.alloc (.cells #[.int .i64 t.kind,.string t.text,.int .i64 t.num,xn,xk] 25)).heap.size=w4.heap.size+1:=by simp
     clear h4 ht4 hy4 hn4 hnode hba KE;go_wp2_with (at_builtin;go_must (refine wpList_append_own_at _ rfl _ _ 23 rfl w.heap.size 25 i0 (.agg #[.int .i64 0,.string ByteArray.empty,.int .i64 0,.slice none 0 0,.slice none 0 0]) 5 80 Tryz.underlying23 hi hz0 hz1 hz2 rfl (by decide) _ L.length (ziy L) rfl (HO4.out.below ((zB _ _).alloc (zL _) _)).own ⟨w4.heap.size+1,0,none⟩ 1 1 (ziy [(.mk 9 none_ 0 [] [t],.slice none 0 0,.slice (some ⟨w4.heap.size,0,none⟩) 1 1)]) rfl rfl ?c1 ?c2 ?c3 ?c4 ?c5 ?_))
     case c1=>exact zo3 w4 _ (.mk 9 none_ 0 [] [t],.slice none 0 0,.slice (some ⟨w4.heap.size,0,none⟩) 1 1) _
     case c2=>exact zo6 (L:=[(.mk 9 none_ 0 [] [t],.slice none 0 0,.slice (some ⟨w4.heap.size,0,none⟩) 1 1)]) (fun y hy=>by rw[List.mem_singleton.1 hy];exact znq (by rfl) HK4.out)
     case c3=>unfold maxLen;omega
     case c4=>omega
     case c5=>simp;omega
     intro v5 w5 hown hgr hnn hat;have HO5:Hid (Out w.heap.size w5 (L++[(.mk 9 none_ 0 [] [t],.slice none 0 0,.slice (some ⟨w4.heap.size,0,none⟩) 1 1)]) v5):=zH (HO4.out.app (l1:=w3.heap.size) (znq (by rfl) HK4.out) hg3 HBL4.out hown hgr (by rw[hw4];exact hat) hnn);have hlow:=zdy (base:=w.heap.size) (by rw[hw4];omega) HO4.out.own hgr;have HPS5:=zH (HPS4.out.low hlow HLO.out)
     have HT5:=zH (HT4.out.low hlow);clear hown hgr hnn hat hlow;have HBACK:=zH (fun q5 h5=>z9h (L:=L) (x:=(.mk 9 none_ 0 [] [t],.slice none 0 0,.slice (some ⟨w4.heap.size,0,none⟩) 1 1)) HGO.out HBG.out HHAT.out HY4.out.1 HY4.out.2 rfl q5 h5)
     go_wp2_with fail
     cases hdot:isB 7 ⟨#[46]⟩ (rest P q4) with
     | true=>
      refine (KT1 _ _ _ _ HPS5.out hdot).out.mono ?_;rintro e w6 ⟨rfl,h6,ht6⟩;have H6:=zH h6;have HT6:=zH ht6;have HB6:=zH (HBACK.out (q4+1) (by rw[<-zrp,hdot];rfl));clear h6 ht6 hdot;go_wp2_with fail
      go_ret;exact ⟨_,_,q4+1,b4,rfl,(HO5.out.turn HT6.out (by rw[HPB.out];exact hpbl)).kids,H6.out,HT5.out.trans HT6.out,zxd HB6.out.1 HB6.out.2⟩
     | false=>
      refine (KT0 _ _ _ _ HPS5.out hdot).out.mono ?_;rintro e w6 ⟨rfl,h6,ht6⟩;have H6:=zH h6;have HT6:=zH ht6;have HB6:=zH (HBACK.out q4 (by rw[<-zrp,hdot];rfl));clear h6 ht6 hdot;go_wp2_with fail
      go_ret;exact ⟨_,_,q4,b4,rfl,(HO5.out.turn HT6.out (by rw[HPB.out];exact hpbl)).kids,H6.out,HT5.out.trans HT6.out,zxd HB6.out.1 HB6.out.2⟩
    | false=>
     refine (KT0 _ _ _ _ H2.out hhat).out.mono ?_;rintro e w3 ⟨rfl,h3,ht3⟩;have hq1:(rest P q).length<n:=Nat.lt_of_le_of_lt HQL.out HN.out;have KE:=KX w3 q h3 hq1;have HHAT:=zH (hhat.symm.trans (z2f _)).symm;have HO3:=zH (HO2.out.turn ht3 (by rw[HPB.out];exact hpbl));have HT3:=zH (HTR.out.trans (HT2.out.trans ht3));have hg3:w.heap.size<=w3.heap.size:=HT3.out.size;clear h3 ht3 hhat hq1
     go_wp2_with fail
     refine KE.out.mono ?_;rintro e w4 ⟨v4,t,q4,b4,rfl,hr4,h4,ht4,hgot⟩;obtain ⟨hy4,hn4⟩:=z6x hgot;clear hgot;obtain ⟨xn,xk,rfl,hnode⟩:=hr4;have HNODE:=zH hnode;have HPS4:=zH h4;have HT4:=zH (HT3.out.trans ht4);have HO4:=zH (HO3.out.turn ht4 (by rw[HPB.out];exact hpbl));have HMB:=zH (z2k (zau n) HGO.out HBG.out HHAT.out hy4 hn4);have HBL4:=zH (zx8 HO3.out)
     have hg4:w.heap.size<=w4.heap.size:=Nat.le_trans hg3 ht4.size;have HONE:=zH (zoa (x:=(t,xn,xk)) hnode);clear h4 ht4 hy4 hn4 hnode KE;go_wp2_with (at_builtin;go_must (refine wpList_append_own_at _ rfl _ _ 23 rfl w.heap.size 25 i0 (.agg #[.int .i64 0,.string ByteArray.empty,.int .i64 0,.slice none 0 0,.slice none 0 0]) 5 80 Tryz.underlying23 hi hz0 hz1 hz2 rfl (by decide) _ L.length (ziy L) rfl (HO4.out.below ((zB _ _).alloc (zL _) _)).own ⟨w4.heap.size,0,none⟩ 1 1 (ziy [(t,xn,xk)]) rfl rfl ?c1 ?c2 ?c3 ?c4 ?c5 ?_))
     case c1=>exact zm1 w4 (t,xn,xk) _
     case c2=>exact zo6 (w:=w4) (L:=[(t,xn,xk)]) (fun y hy=>by rw[List.mem_singleton.1 hy];exact HNODE.out)
     case c3=>unfold maxLen;omega
     case c4=>omega
     case c5=>simp;omega
     intro v5 w5 hown hgr hnn hat;have HO5:Hid (Out w.heap.size w5 (L++[(t,xn,xk)]) v5):=zH (HO4.out.app (l1:=w3.heap.size) HNODE.out hg3 HBL4.out hown hgr hat hnn);have hlow:=zdy (base:=w.heap.size) hg4 HO4.out.own hgr;have HPS5:=zH (HPS4.out.low hlow HLO.out);have HT5:=zH (HT4.out.low hlow);clear hown hgr hnn hat hlow;go_wp2_with fail
     cases hdot:isB 7 ⟨#[46]⟩ (rest P q4) with
     | true=>
      refine (KT1 _ _ _ _ HPS5.out hdot).out.mono ?_;rintro e w6 ⟨rfl,h6,ht6⟩;have H6:=zH h6;have HT6:=zH ht6;have HDOT:=zH (hdot.symm.trans (zrp _)).symm;have hq4:q4<N:=by rw[<-HNN.out];exact zkc hdot
      clear h6 ht6 hdot;go_wp2_with fail
      go_roundw
      case rel=>
       refine ⟨L++[(t,xn,xk)],q4+1,b4,by simp;omega,H6.out,HT5.out.trans HT6.out,HO5.out.turn HT6.out (by rw[HPB.out];exact hpbl),fun e=>?_,HMB.out.1⟩
       obtain ⟨h1,-,h3⟩:=HMB.out.2 e;exact ⟨by omega,by simp;omega,by rw[zf3];exact h3 HDOT.out⟩
      case measure=>
       rw[hlf.out];cases b4 with
       | true=>have:=H6.out.zhh N;rw[HPB.out] at this;omega
       | false=>have h1:=H6.out.ze5 N;rw[HPB.out] at h1;have h2:=(HMB.out.2 rfl).1;omega
     | false=>
      refine (KT0 _ _ _ _ HPS5.out hdot).out.mono ?_;rintro e w6 ⟨rfl,h6,ht6⟩;have H6:=zH h6;have HT6:=zH ht6;have HDOT:=zH (hdot.symm.trans (zrp _)).symm;clear h6 ht6 hdot;go_wp2_with fail
      go_ret;refine ⟨_,_,q4,b4,rfl,(HO5.out.turn HT6.out (by rw[HPB.out];exact hpbl)).kids,H6.out,HT5.out.trans HT6.out,zxd (fun body r1 e=>?_) fun e=>?_⟩
      ·cases b4 with
       | true=>rw[HMB.out.1 rfl] at e;cases e
       | false=>rw[(HMB.out.2 rfl).2.1 HDOT.out] at e;cases e;exact ⟨by rw[zf3];rfl,rfl,rfl⟩
      ·cases b4 with
       | true=>rfl
       | false=>rw[(HMB.out.2 rfl).2.1 HDOT.out] at e;cases e
end Parser
end Go.Proofs.YtlmhgeanknhcfaaGreatDoor
