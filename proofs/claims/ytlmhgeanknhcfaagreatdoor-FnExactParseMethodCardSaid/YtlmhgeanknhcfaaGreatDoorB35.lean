/-
  DataStrict AppendTexts DataOut ParTD DataGrow ImplConcat
-/
import Derived.Test.YtlmhgeanknhcfaaGreatDoorB0
import Derived.Test.YtlmhgeanknhcfaaGreatDoorB25
import Derived.Lib.AppendZerosOnto
set_option maxHeartbeats 8000000
set_option maxRecDepth 10000
namespace Go.Proofs.YtlmhgeanknhcfaaGreatDoor.Data
open Go.RowKit
open Strs Tree
def zfc (v:Value) (n:Nat):Prop:=(v=.slice none 0 0/\n=0)\/∃ b o c,v=.slice (some ⟨b,o,none⟩) n c
mutual
def zlc:D->Prop
 | .int _=>True
 | .str _=>True
 | .bool _=>True
 | .row _ k v ds=>(∃ n,ds.length=n*k/\zfc v n)/\zk5 ds
def zk5:List D->Prop
 | []=>True
 | d::ds=>zlc d/\zk5 ds
end
theorem zkv {ds:List D}:zk5 ds↔∀ d,d∈ds->zlc d:=by
 induction ds with
 | nil=>simp[zk5]
 | cons t ts ih=>rw[zk5,ih];simp
theorem zm6 {w:World} {base:Nat} {e:TypeId} {size:Nat} {v:Value} {n:Nat} {xs:List Value} (h:w.ownsRow base e size v n xs):zfc v n:=by
 obtain ⟨_,⟨rfl,hn⟩|⟨g,cap,cur,rfl,_⟩⟩:=h
 ·exact .inl ⟨rfl,hn⟩
 ·exact .inr ⟨g,0,cap,rfl⟩
theorem Good.strict {w:World}:∀ d,Good w d->zlc d:=by
 refine ind (fun n _=>?_) (fun s _=>?_) (fun b _=>?_) fun t k v ds ih h=>?_
 ·rw[zlc];trivial
 ·rw[zlc];trivial
 ·rw[zlc];trivial
 ·rw[Good] at h
  obtain ⟨⟨n,h0,h1,h2⟩,h3⟩:=h;rw[zam] at h3;rw[zlc];exact ⟨⟨n,h1,zm6 h2⟩,zkv.2 fun d hd=>ih d hd (h3 d hd)⟩
theorem Own.strict {base:Nat} {w:World} {ds:List D} (h:Own base w ds):zk5 ds:=zkv.2 fun d hd=>Good.strict d (zam.1 h.good d hd)
theorem zq3 {t k:Nat} {v:Value} {ds:List D} {n:Nat} (h:zlc (.row t k v ds)) (hk:0<k) (hn:ds.length=n*k):zfc v n:=by rw[zlc] at h;obtain ⟨⟨m,h1,h2⟩,-⟩:=h;have:m=n:=Nat.eq_of_mul_eq_mul_right hk (by rw[<-h1,hn]);subst this;exact h2
structure M where
 sel:ByteArray
 cls:Bool
 params:List ByteArray
 temps:List ByteArray
 body:List E
structure C where
 name:ByteArray
 parent:ByteArray
 fields:List ByteArray
 methods:List M
structure U where
 classes:List C
 main:M
def zzk (xs:List ByteArray):List P:=xs.map P.str
def zbc (m:M):List P:=[.str m.sel,.bool m.cls,.row 1 (zzk m.params),.row 1 (zzk m.temps),.row 5 (zay m.body)]
def za8:List M->List P
 | []=>[]
 | m::ms=>zbc m++za8 ms
def zcx (c:C):List P:=[.str c.name,.str c.parent,.row 1 (zzk c.fields),.row 5 (za8 c.methods)]
def zbj:List C->List P
 | []=>[]
 | c::cs=>zcx c++zbj cs
def zde (u:U):List P:=.row 4 (zbj u.classes)::zbc u.main
theorem zei (ms:List M):(za8 ms).length=ms.length*5:=by
 induction ms with
 | nil=>rfl
 | cons m ms ih=>rw[za8,List.length_append,ih,List.length_cons,Nat.succ_mul];show 5+_=_;omega
theorem zid (cs:List C):(zbj cs).length=cs.length*4:=by
 induction cs with
 | nil=>rfl
 | cons m ms ih=>rw[zbj,List.length_append,ih,List.length_cons,Nat.succ_mul];show 4+_=_;omega
theorem z1u {ds:List D} (h:za7 0 (zaa ds)):∃ xs,ds=strs xs/\zaa ds=zzk xs:=by obtain ⟨xs,rfl⟩:=zic h;exact ⟨xs,rfl,zb0 xs⟩
theorem zze {ds:List D} (h:zdc (env 3) (zaa ds)):∃ (m:M) (t2 t3 t4:Nat) (v2 v3 v4:Value) (d4:List D),ds=[.str m.sel,.bool m.cls,.row t2 1 v2 (strs m.params),.row t3 1 v3 (strs m.temps),.row t4 5 v4 d4]/\zaa d4=zay m.body/\zaa ds=zbc m:=by
 obtain ⟨s0,e0,rfl,h0⟩:=za4 h;obtain ⟨x1,e1,rfl,h1⟩:=zcf h0;obtain ⟨t2,v2,d2,e2,rfl,f2,h2⟩:=zak (k:=1) rfl h1;obtain ⟨t3,v3,d3,e3,rfl,f3,h3⟩:=zak (k:=1) rfl h2;obtain ⟨t4,v4,d4,e4,rfl,f4,h4⟩:=zak (k:=5) rfl h3;obtain rfl:=zbh h4;obtain ⟨ps,rfl,hp⟩:=z1u f2;obtain ⟨ts,rfl,ht⟩:=z1u f3;obtain ⟨ks,hk⟩:=z1i f4;refine ⟨⟨s0,x1,ps,ts,ks⟩,t2,t3,t4,v2,v3,v4,d4,rfl,hk,?_⟩
 simp only[zaa,erase,zbc,hp,ht,hk]
theorem z2d:∀ (n:Nat) (ds:List D),ds.length<=n->za7 3 (zaa ds)->∃ ms,zaa ds=za8 ms:=by
 intro n
 induction n with
 | zero=>intro ds hl _;exact ⟨[],by rw[List.eq_nil_of_length_eq_zero (Nat.le_zero.1 hl)];rfl⟩
 | succ n ih=>
  intro ds hl h;rcases zct h with rfl|⟨item,rest,rfl,h1,h2⟩
  ·exact ⟨[],rfl⟩
  ·have hil:=zfe h1
   have h5:(env 3).length=5:=rfl;rw[za0] at hil;rw[List.length_append] at hl;obtain ⟨m,_,_,_,_,_,_,_,_,_,hm⟩:=zze h1;obtain ⟨ms,hms⟩:=ih rest (by omega) h2;exact ⟨m::ms,by rw[zao,hm,hms,za8]⟩
theorem z5w {ds:List D} (h:zdc (env 4) (zaa ds)):∃ (c:C) (t2 t3:Nat) (v2 v3:Value) (d3:List D),ds=[.str c.name,.str c.parent,.row t2 1 v2 (strs c.fields),.row t3 5 v3 d3]/\zaa d3=za8 c.methods/\za7 3 (zaa d3)/\zaa ds=zcx c:=by obtain ⟨s0,e0,rfl,h0⟩:=za4 h;obtain ⟨s1,e1,rfl,h1⟩:=za4 h0;obtain ⟨t2,v2,d2,e2,rfl,f2,h2⟩:=zak (k:=1) rfl h1;obtain ⟨t3,v3,d3,e3,rfl,f3,h3⟩:=zak (k:=5) rfl h2;obtain rfl:=zbh h3;obtain ⟨fs,rfl,hp⟩:=z1u f2;obtain ⟨ms,hk⟩:=z2d _ d3 (zL _) f3;refine ⟨⟨s0,s1,fs,ms⟩,t2,t3,v2,v3,d3,rfl,hk,f3,?_⟩;simp only[zaa,erase,zcx,hp,hk]
def zcs (m:M):E:=.mk 8 ByteArray.empty m.params.length (m.params++m.temps) m.body
theorem zc1 (m:M):Data.weights (zbc m)=m.sel.size+Tree.weight (zcs m):=by unfold zcs;rw[Tree.weight];simp only[zbc,Data.weights,Data.weight,zzk];rw[List.length_map,List.length_map,zex,zex,zdg,Nat.mul_div_cancel _ (by decide),zkj,Nat.div_one,Nat.div_one,List.length_append,zeg];have:ByteArray.empty.size=0:=rfl;omega
end Go.Proofs.YtlmhgeanknhcfaaGreatDoor.Data
namespace Go.Proofs.YtlmhgeanknhcfaaGreatDoor
namespace Data
open Go.RowKit
open Strs Tree
theorem yac:(Tryz.prog.info? 9).map (fun i=>(i.zero,i.size,i.bytes))=some (some (.string ByteArray.empty),1,16):=by kernel_rfl
theorem ydn (b o k:Nat):(⟨b,o,none⟩:Addr).add k=⟨b,o+k,none⟩:=by unfold Addr.add;split<;>simp_all
theorem zdz {w:World} {ops:Array Oper} {rest:List Oper} {o:Oper} {a:Act} {Q:Exit->Act->World->Prop} (hgd:o.guard=none) (s x:Operand)
  (ho:o.op=.call { callee:=.builtin .append,args:=#[s,x],argTypes:=#[22,22] })
  (base:Nat) (v:Value) (xs:List ByteArray) (hs:a.eval s=v) (hown:w.ownsRow base 9 1 v xs.length (xs.map Value.string))
  (vy:Value) (ys:List ByteArray) (lo:Nat) (hx:a.eval x=vy) (hy:zbv lo w ys vy) (hf:zfc vy ys.length) (hbytes:xs.length+ys.length<=4398046511104) (hbase:base<=w.heap.size)
  (h:∀ v' w',w'.ownsRow base 9 1 v' (xs++ys).length ((xs++ys).map Value.string)->Below base w w'->wpList Tryz.prog ops Q rest (a.put o.dst v') w'):wpList Tryz.prog ops Q (o::rest) a w:=by
 obtain ⟨i0,hi,hz0,hz1,hz2⟩:=info_parts yac;rcases hf with ⟨rfl,hn⟩|⟨b,of,c,rfl⟩
 ·have hy0:ys=[]:=List.eq_nil_of_length_eq_zero hn
  subst hy0;refine wpList_append_own_none hgd s x 22 ho base 9 i0 1 Tryz.underlying22 hi v xs.length _ hs hown hx ?_;exact h v w (by rw[List.append_nil];exact hown) (zB _ _)
 ·obtain ⟨a',cap,he,hm,hsz,hc⟩:=hy
  cases he;refine wpList_append_own _ hgd s x 22 ho base 9 i0 (.string ByteArray.empty) 1 16 Tryz.underlying22 hi hz0 hz1 hz2 rfl (by decide) v xs.length _ hs hown ⟨b,of,none⟩ ys.length c (ys.map Value.string) hx (by simp) (fun j u hj=>?_) (fun u hu=>?_) (by unfold maxLen;omega) (by omega) hbase ?_
  ·have hl:=(List.getElem?_eq_some_iff.1 hj).1
   have hv:=(List.getElem?_eq_some_iff.1 hj).2;rw[List.length_map] at hl;rw[List.getElem_map] at hv;obtain ⟨b',o',e,-,hd⟩:=hc (by omega);cases e;rw[ydn,hd j hl,hv]
  ·obtain ⟨y,_,rfl⟩:=List.mem_map.1 hu
   rfl
  ·intro v' w' hown' hgr _
   exact h v' w' (by rw[List.length_append,List.map_append];exact hown') ((zB _ _).grown hgr hbase (fun k hk=>(hown.lt k hk).1))
theorem z8f (w:World) (T:TypeId) (k:Nat):(w.alloc (.cells #[] T)).ownsRow w.heap.size T k (.slice (some ⟨w.heap.size,0,none⟩) 0 0) 0 []:=
 World.ownsRow_lit (base:=w.heap.size) (e:=T) (size:=k) w #[] 0 (zL _) (Nat.zero_le _) (by simp)
theorem zbs {B base:Nat} {ds:List D} {wr w':World} (h:Cells B ds wr) (hb:Below base wr w') (hB:B<base):Cells B ds w':=
 ⟨Nat.lt_of_lt_of_le h.1 hb.size,fun j hj=>(World.cell?_of_block (a:=⟨B,j,none⟩) (hb.block B hB)).trans (h.2 j hj)⟩
theorem zb3 {B base:Nat} {wr w':World} (h:∀ o,wr.frozen? ⟨B,o,none⟩=false) (hb:Below base wr w') (hB:B<base):∀ o,w'.frozen? ⟨B,o,none⟩=false:=
 fun o=>(World.frozen?_of_block (a:=⟨B,o,none⟩) (hb.block B hB)).trans (h o)
def zzv:List D:=[.int 0,.str ⟨#[]⟩,.int 0,.row 0 1 (.slice none 0 0) [],.row 0 5 (.slice none 0 0) []]
theorem z10 {lo l1 l2:Nat} {w:World} {ps ts:List ByteArray} {ks:List E} {vp vt vk:Value} (hp:zbv l1 w ps vp) (fp:zfc vp ps.length) (ht:zbv l2 w ts vt) (ft:zfc vt ts.length) (hk:zdh lo w ks vk) (hpl:ps.length+ts.length<=4398046511104):
  Calls Tryz.prog 87 #[vp,vt,vk] w fun r w'=>∃ ra rc,r=.returned (.agg #[.int .i64 8,.string ⟨#[]⟩,.int .i64 (ps.length:Int),.slice ra (ps.length+ts.length) rc,vk])/\zbv w.heap.size w' (ps++ts) (.slice ra (ps.length+ts.length) rc)/\Below w.heap.size w w':=by
 have HT:=zH ht;have HP:=zH hp;have FT:=zH ft;have FP:=zH fp
 skip
 obtain ⟨pa,pc,rfl,-⟩:=id hp;obtain ⟨ta,tc,rfl,-⟩:=id ht;obtain ⟨ka,kc,rfl,-⟩:=id hk;clear hp ht hk fp ft;have hz:Cells w.heap.size zzv ((w.alloc (.cells #[.int .i64 0,.string ⟨#[]⟩,.int .i64 0,.slice none 0 0,.slice none 0 0] 25)).alloc (.cells #[] 9)):=(zae w zzv 25).step ((zB _ _).alloc (zL _) _);have hb0:Below w.heap.size w ((w.alloc (.cells #[.int .i64 0,.string ⟨#[]⟩,.int .i64 0,.slice none 0 0,.slice none 0 0] 25)).alloc (.cells #[] 9)):=((zB _ _).alloc (zL _) _).alloc (by simp) _
 have hlit:=z8f (w.alloc (.cells #[.int .i64 0,.string ⟨#[]⟩,.int .i64 0,.slice none 0 0,.slice none 0 0] 25)) 9 1;rw[show (w.alloc (.cells #[.int .i64 0,.string ⟨#[]⟩,.int .i64 0,.slice none 0 0,.slice none 0 0] 25)).heap.size=w.heap.size+1 by simp] at hlit
 have hf0:∀ o,((w.alloc (.cells #[.int .i64 0,.string ⟨#[]⟩,.int .i64 0,.slice none 0 0,.slice none 0 0] 25)).alloc (.cells #[] 9)).frozen? ⟨w.heap.size,o,none⟩=false:=fun o=>by go_simp
 have hs0:w.heap.size+1<=((w.alloc (.cells #[.int .i64 0,.string ⟨#[]⟩,.int .i64 0,.slice none 0 0,.slice none 0 0] 25)).alloc (.cells #[] 9)).heap.size:=by simp
 have HLIT:=zH hlit;have HB0:=zH hb0;have HZ0:=zH hz;have HF0:=zH hf0;have HS0:=zH hs0;clear hlit hb0 hz hf0 hs0;go_enter Tryz.func87,Tryz.ntmps87;go_wp2_with (at_builtin;go_must (refine zdz rfl _ _ rfl (w.heap.size+1) _ [] rfl HLIT.out (.slice pa ps.length pc) ps l1 rfl (HP.out.below HB0.out) FP.out (by simp;omega) HS0.out ?_))
 intro v1 w1 hown hlow;have HO1:=zH hown;have HB1:=zH (HB0.out.trans (hlow.mono (by omega)));have HZ1:=zH (zbs HZ0.out hlow (by omega));have HF1:=zH (zb3 HF0.out hlow (by omega));have HS1:=zH (Nat.le_trans HS0.out hlow.size);clear hown hlow HLIT HB0 HZ0 HF0 HS0;go_wp2_with (at_builtin;go_must (refine zdz rfl _ _ rfl (w.heap.size+1) _ ps rfl HO1.out (.slice ta ts.length tc) ts l2 rfl (HT.out.below HB1.out) FT.out (by omega) HS1.out ?_))
 intro v2 w2 hown hlow;have HB2:=zH (HB1.out.trans (hlow.mono (by omega)));have hz2:=zbs HZ1.out hlow (by omega);have fz:=zb3 HF1.out hlow (by omega);have z0:=hz2.at 0 (.int 0) rfl;have z1:=hz2.at 1 (.str ⟨#[]⟩) rfl;have z2:=hz2.at 2 (.int 0) rfl;have z3:=hz2.at 3 (.row 0 1 (.slice none 0 0) []) rfl;have z4:=hz2.at 4 (.row 0 5 (.slice none 0 0) []) rfl;simp only[val] at z0 z1 z2 z3 z4
 obtain ⟨ra,rc,rfl⟩:=Kit.za5 hown;have HO2:Hid (w2.ownsRow (w.heap.size+1) 9 1 (.slice ra (ps.length+ts.length) rc) (ps++ts).length ((ps++ts).map Value.string)):=zH (by simpa using hown);clear hown hlow hz2 HO1 HB1 HZ1 HF1 HS1;go_wp2_with fail
 have hbf:=zbl (zL w.heap.size) [.int .i64 8,.string ⟨#[]⟩,.int .i64 ps.length,.slice ra (ps.length+ts.length) rc,.slice ka ks.length kc] w w2 0 HB2.out
 have hof:(puts w2 w.heap.size 0 [.int .i64 8,.string ⟨#[]⟩,.int .i64 ps.length,.slice ra (ps.length+ts.length) rc,.slice ka ks.length kc]).ownsRow (w.heap.size+1) 9 1 (.slice ra (ps.length+ts.length) rc) (ps++ts).length ((ps++ts).map Value.string):=by
  refine zd0 HO2.out fun b hb=>?_
  have h1:=(zdb HO2.out b hb).1;simp only[puts]
  repeat rw[Below.heap_setCell _ _ _ _ (fun e=>by have:b=w.heap.size:=e;omega)]
 refine bodyPost_ret (v:=.agg #[.int .i64 8,.string ⟨#[]⟩,.int .i64 ps.length,.slice ra (ps.length+ts.length) rc,.slice ka ks.length kc]) (by simp[results,Tryz.results87,go_sem, *]) rfl ⟨ra,rc,rfl,?_,hbf⟩
 have hx:∀ x,x∈ps++ts->x.size<=maxLen:=fun x hx=>by
  obtain ⟨_,_,_,_,s1,_⟩:=HP.out;obtain ⟨_,_,_,_,s2,_⟩:=HT.out;rcases List.mem_append.1 hx with h1|h1
  ·exact s1 x h1
  ·exact s2 x h1
 have hr:Row (w.heap.size+1) _ 9 1 (.slice ra (ps.length+ts.length) rc) (strs (ps++ts)):=zlk hof hx;have ho:=(row_iff.2 hr).mono (base':=w.heap.size) (by omega);exact zdp (t:=9) (xs:=ps++ts) (zbo.1 ho.holds (.row 9 1 (.slice ra (ps.length+ts.length) rc) (strs (ps++ts))) (by simp))
end Data
namespace Data
open Go.RowKit
open Strs Tree
open Go.Proofs.YtlmhgeanknhcfaaGreatDoor.Parser (Cst za2 zcg)
theorem z7i {α:Type} {K:Nat} (l:List (List α)) (h:∀ x,x∈l->x.length=K):l.flatten.length=l.length*K:=by
 induction l with
 | nil=>simp
 | cons x xs ih=>
  rw[List.flatten_cons,List.length_append,List.length_cons,ih (fun y hy=>h y (by simp[hy])),h x (by simp),Nat.succ_mul]
  omega
def ydu (lo:Nat) (wr:World) (g:Option Nat) (x:List D):Prop:=
 ∃ l0 w0,lo<=l0/\zat l0 w0 x/\Kept l0 w0 wr/\w0.heap.size<=wr.heap.size/\∀ k,g=some k->k<l0\/w0.heap.size<=k
structure znz (base:Nat) (T:TypeId) (K:Nat) (wr:World) (L:List (List D)) (v:Value):Prop where
 own:wr.ownsRow base T K v L.length (vals L.flatten)
 len:∀ x,x∈L->x.length=K
 apart:∀ x,x∈L->ydu base wr v.ownBlock x
theorem znz.nil {base K:Nat} {T:TypeId} {wr:World}:znz base T K wr [] (.slice none 0 0):=⟨⟨by simp[vals],.inl ⟨rfl,rfl⟩⟩,(fun _ h=>nomatch h),(fun _ h=>nomatch h)⟩
theorem znz.turn {P:Cst} {base K:Nat} {T:TypeId} {wr w':World} {L:List (List D)} {v:Value} (h:znz base T K wr L v) (ht:za2 P wr w') (hp:P.pb<base):znz base T K w' L v:=by
 refine ⟨zcg h.own ht hp,h.len,fun x hx=>?_⟩
 obtain ⟨l0,w0,h1,h2,h3,h4,h5⟩:=h.apart x hx;exact ⟨l0,w0,h1,h2,h3.trans (ht.kept.mono (by omega)),Nat.le_trans h4 ht.size,h5⟩
theorem znz.below {base K:Nat} {T:TypeId} {wr w':World} {L:List (List D)} {v:Value} (h:znz base T K wr L v) (hb:Below wr.heap.size wr w'):znz base T K w' L v:=by
 refine ⟨own_keep h.own hb,h.len,fun x hx=>?_⟩
 obtain ⟨l0,w0,h1,h2,h3,h4,h5⟩:=h.apart x hx;exact ⟨l0,w0,h1,h2,h3.trans (za1 hb),Nat.le_trans h4 hb.size,h5⟩
theorem znz.set {base K:Nat} {T:TypeId} {wr:World} {L:List (List D)} {v:Value} (h:znz base T K wr L v) (a:Addr) (u:Value) (ha:a.block<base):znz base T K (wr.setCell a u) L v:=by
 refine ⟨Parser.zft h.own a u ha,h.len,fun x hx=>?_⟩
 obtain ⟨l0,w0,h1,h2,h3,h4,h5⟩:=h.apart x hx;exact ⟨l0,w0,h1,h2,h3.trans (zci _ _ _ (by omega)),by simpa using h4,h5⟩
theorem znz.app {base l1 K:Nat} {T:TypeId} {wr w':World} {L:List (List D)} {v v':Value} {x:List D} {o:Obj} (h:znz base T K wr L v) (hlen:x.length=K) (hx:zat l1 wr x) (hl:base<=l1) (hg:∀ k,v.ownBlock=some k->k<l1)
  (hown:w'.ownsRow base T K v' (L.length+1) (vals L.flatten++vals x)) (hgr:(wr.alloc o).grownBy w' v.ownBlock) (hat:v'.ownBlock=v.ownBlock\/v'.ownBlock=some (wr.heap.size+1)):znz base T K w' (L++[x]) v':=by
 have hs:wr.heap.size<=w'.heap.size:=by have:=hgr.size;simp at this;omega
 have hcell:∀ b p u,wr.cell? ⟨b,p,none⟩=some u->some b≠v.ownBlock->w'.cell? ⟨b,p,none⟩=some u:=fun b p u hc hne=>by have hb:Below wr.heap.size wr (wr.alloc o):=(zB _ _).alloc (zL _) _;exact hgr.cell (cell_keep hb hc) hne
 have hsz:(wr.alloc o).heap.size=wr.heap.size+1:=by simp
 refine ⟨by rw[List.length_append,List.flatten_append,zeh];simpa using hown,fun y hy=>?_,fun y hy=>?_⟩
 ·rcases List.mem_append.1 hy with hy|hy
  ·exact h.len y hy
  ·rw[List.mem_singleton.1 hy];exact hlen
 rcases List.mem_append.1 hy with hy|hy
 ·obtain ⟨l0,w0,h1,h2,h3,h4,h5⟩:=h.apart y hy
  refine ⟨l0,w0,h1,h2,fun b p u hb hc=>?_,Nat.le_trans h4 hs,fun k hk=>?_⟩
  ·refine hcell b p u (h3 b p u hb hc) fun e=>?_
   have hlt:=cell_lt hc;rcases h5 b e.symm with h6|h6
   ·omega
   ·simp at hlt;omega
  ·rcases hat with e|e
   ·rw[e] at hk;exact h5 k hk
   ·rw[e] at hk
    injection hk with hk
    exact .inr (by omega)
 ·rw[List.mem_singleton.1 hy]
  refine ⟨l1,wr,hl,hx,fun b p u hb hc=>hcell b p u hc fun e=>?_,hs,fun k hk=>?_⟩
  ·have:=hg b e.symm;omega
  ·rcases hat with e|e
   ·rw[e] at hk;exact .inl (hg k hk)
   ·rw[e] at hk
    injection hk with hk
    exact .inr (by omega)
theorem znz.holds {base K:Nat} {T:TypeId} {wr:World} {L:List (List D)} {v:Value} (h:znz base T K wr L v) (hK:0<K) (t:Nat):Holds base wr (.row t K v L.flatten):=by
 have hl:=z7i L h.len
 have hd:zat base wr L.flatten:=by rw[zbo];intro d hd;obtain ⟨x,hx,hd⟩:=List.mem_flatten.1 hd;obtain ⟨l0,w0,h1,h2,h3,-,-⟩:=h.apart x hx;exact zbo.1 (h2.keep h1 h3) d hd
 have h':=h.own;rw[Holds];refine ⟨?_,hd⟩;obtain ⟨_,⟨rfl,hn⟩|⟨g,cap,cur,rfl,hbg,hg,hnc,hcm,_,_⟩⟩:=h.own
 ·exact ⟨none,0,0,rfl,hK,by rw[hl,hn],zL _,Nat.zero_le _,fun h=>absurd h (Nat.lt_irrefl _)⟩
 ·refine ⟨_,_,cap,rfl,hK,hl,hnc,hcm,fun _=>⟨g,0,rfl,hbg,fun j hj=>?_⟩⟩
  rw[Nat.zero_add,h'.cellAt j (by omega)];exact zjt _ _ hj
end Data
end Go.Proofs.YtlmhgeanknhcfaaGreatDoor
namespace Go.Proofs.YtlmhgeanknhcfaaGreatDoor.Data
open Go.RowKit
open Strs Tree
mutual
def toD:Placed.T->List D
 | .mk k t n ns vn vk ks=>[.int k,.str t,.int n,.row 9 1 vn (strs ns),.row 25 5 vk (zhe ks)]
def zhe:List Placed.T->List D
 | []=>[]
 | t::ts=>toD t++zhe ts
end
theorem yc3 (t:Placed.T):toD t=[.int t.kind,.str t.text,.int t.num,.row 9 1 t.vn (strs t.names),.row 25 5 t.vk (zhe t.kids)]:=by cases t;rw[toD];rfl
theorem zkk (ts:List Placed.T) (h:∀ t,t∈ts->zaa (toD t)=zch (Placed.toE t)):zaa (zhe ts)=zay (Placed.zg2 ts):=by
 induction ts with
 | nil=>rfl
 | cons t ts ih=>rw[zhe,zao,h t (by simp),ih fun x hx=>h x (by simp[hx]),Placed.zg2,zay]
theorem z1b:∀ t,zaa (toD t)=zch (Placed.toE t):=by
 refine Placed.ind fun k t n ns vn vk ks ih=>?_
 rw[toD,Placed.toE,zch];simp only[zaa,erase];rw[zkk ks ih,zb0]
theorem zxh (ts:List Placed.T):zaa (zhe ts)=zay (Placed.zg2 ts):=zkk ts fun t _=>z1b t
theorem z8p (t:Placed.T):vals (toD t)=Placed.cells t:=by rw[yc3];rfl
theorem zpv (ts:List Placed.T):vals (zhe ts)=Placed.row ts:=by
 induction ts with
 | nil=>rfl
 | cons t ts ih=>rw[zhe,zeh,z8p,ih,Placed.zho]
theorem zy5 (ts:List Placed.T):(zhe ts).length=ts.length*5:=by rw[<-zfj,zpv,Placed.zd7]
theorem z96 (v:Value):Placed.blk v=blk v:=rfl
theorem zl1 (ts:List Placed.T) (h:∀ t,t∈ts->zah (toD t)=Placed.foot t):zah (zhe ts)=Placed.zah ts:=by
 induction ts with
 | nil=>rfl
 | cons t ts ih=>rw[zhe,zan,h t (by simp),ih fun x hx=>h x (by simp[hx]),Placed.zah]
theorem z1p:∀ t,zah (toD t)=Placed.foot t:=by
 refine Placed.ind fun k t n ns vn vk ks ih=>?_
 rw[toD,Placed.foot];simp only[zah,foot];rw[zl1 ks ih,zfo];simp[z96]
theorem zmw (ts:List Placed.T):zah (zhe ts)=Placed.zah ts:=zl1 ts fun t _=>z1p t
theorem z3s {w:World}:∀ t,Placed.Good w t->zb2 w (toD t):=by
 refine Placed.ind fun k t n ns vn vk ks ih=>?_
 intro h;rw[Placed.Good] at h;obtain ⟨h1,h2,h3,h4,h5,h6,h7⟩:=h;rw[Placed.zam] at h7
 have hk:zb2 w (zhe ks):=by
  clear h6
  induction ks with
  | nil=>trivial
  | cons x xs ihx=>rw[zhe];exact zb2.append.2 ⟨ih x (by simp) (h7 x (by simp)),ihx (fun y hy=>ih y (by simp[hy])) fun y hy=>h7 y (by simp[hy])⟩
 rw[toD];rw[zam];intro d hd;simp only[List.mem_cons,List.not_mem_nil,or_false] at hd;rcases hd with rfl|rfl|rfl|rfl|rfl
 ·rw[Good];exact h1
 ·rw[Good];exact h3
 ·rw[Good];exact h2
 ·rw[Good];exact ⟨⟨ns.length,by decide,by rw[zeb,Nat.mul_one],by rw[zi3];exact h5⟩,zm0.2 h4⟩
 ·rw[Good];exact ⟨⟨ks.length,by decide,zy5 ks,by rw[zpv];exact h6⟩,hk⟩
theorem z0c {w:World} {ts:List Placed.T} (h:Placed.zb2 w ts):zb2 w (zhe ts):=by
 rw[Placed.zam] at h
 induction ts with
 | nil=>trivial
 | cons x xs ihx=>rw[zhe];exact zb2.append.2 ⟨z3s x (h x (by simp)),ihx fun y hy=>h y (by simp[hy])⟩
theorem z8k {base:Nat} {w:World} {ts:List Placed.T} (h:Placed.zmr base w ts):Own base w (zhe ts):=⟨z0c h.good,by rw[zmw];exact h.nd,by rw[zmw];exact h.lo⟩
theorem z8l {base:Nat} {w:World} {ts:List Placed.T} {v:Value} (h:ParI.Row base w ts v):Row base w 25 5 v (zhe ts):=
 ⟨⟨ts.length,by decide,zy5 ts,by rw[zpv];exact h.own⟩,z8k h.kids,fun b hb=>by rw[zmw];exact h.apart b hb⟩
theorem zn6 {base:Nat} {w:World} {xs:List ByteArray} {v:Value} (h:w.ownsRow base 9 1 v xs.length (xs.map Value.string)) (hx:∀ x,x∈xs->x.size<=maxLen):Row base w 9 1 v (strs xs):=
 ⟨⟨xs.length,by decide,by rw[zeb,Nat.mul_one],by rw[zi3];exact h⟩,⟨zm0.2 hx,by rw[zfo];exact List.nodup_nil,by rw[zfo];intro b hb;cases hb⟩,by rw[zfo];intro b _ hb;cases hb⟩
end Go.Proofs.YtlmhgeanknhcfaaGreatDoor.Data
namespace Go.Proofs.YtlmhgeanknhcfaaGreatDoor
namespace Data
open Go.RowKit
open Strs Tree
open Go.Proofs.YtlmhgeanknhcfaaGreatDoor.Parser (Cst za2)
theorem Own.z9l {base:Nat} {F:List Nat} {w w':World} {a b:List D} (h:Own base w a) (hx:Exc F w w') (hF:∀ x,x∈zah a->x∉F) (k:Own w.heap.size w' b) (hw:base<=w.heap.size):Own base w' (a++b):=
 (hx.keeps h hF).append (k.mono hw) fun x h1 h2=>by have:=h.lt x h1;have:=k.lo x h2;omega
theorem Exc.cells {F:List Nat} {w w':World} {B:Nat} {ds:List D} (h:Exc F w w') (hc:Cells B ds w) (hB:B∉F):Cells B ds w':=
 ⟨Nat.lt_of_lt_of_le hc.1 h.size,fun j hj=>(World.cell?_of_block (a:=⟨B,j,none⟩) (h.block B hc.1 hB)).trans (hc.2 j hj)⟩
theorem zb4 {P:Cst} {w w':World} (h:za2 P w w') (F:List Nat) (hF:P.pb∈F):Exc F w w':=
 ⟨World.grownBy.os h,World.grownBy.tape h,World.grownBy.output h,World.grownBy.size h,fun b hb hf=>World.grownBy.block h b hb (by
  intro e;have:b=P.pb:=by simpa using e
  exact hf (this▸hF))⟩
theorem zeq {P:Cst} {a b c:World} {F:List Nat} (h:za2 P a b) (k:Exc F b c) (hF:∀ x,x∈F->x≠P.pb->a.heap.size<=x):za2 P a c:=
 ⟨k.os.trans (World.grownBy.os h),k.tape.trans (World.grownBy.tape h),k.output.trans (World.grownBy.output h),Nat.le_trans (World.grownBy.size h) k.size,fun i hi hn=>
  (k.block i (Nat.lt_of_lt_of_le hi (World.grownBy.size h)) (fun e=>by
   have hne:i≠P.pb:=by simpa using hn
   have:=hF i e hne;omega)).trans (World.grownBy.block h i hi hn)⟩
theorem Row.app {base l1 K n:Nat} {T:TypeId} {wr w':World} {ds x:List D} {v v':Value} {o:Obj} (h:Row base wr T K v ds) (hn:ds.length=n*K) (hx:Own l1 wr x) (hlen:x.length=K) (hb:base<=l1) (hl:∀ b,b∈blk v\/b∈zah ds->b<l1)
  (hown:w'.ownsRow base T K v' (n+1) (vals ds++vals x)) (hgr:(wr.alloc o).grownBy w' v.ownBlock) (hat:v'.ownBlock=v.ownBlock\/v'.ownBlock=some (wr.heap.size+1)):Row base w' T K v' (ds++x):=by
 obtain ⟨_,hK,-,-⟩:=h.own
 have hheap:∀ b,b<wr.heap.size->b∉blk v->w'.heap[b]?=wr.heap[b]?:=fun b hb hne=>by
  have h1:=World.grownBy.block hgr b (by simp;omega) (by intro e;exact hne (by unfold blk;rw[<-e];simp))
  rw[h1];have hba:Below wr.heap.size wr (wr.alloc o):=(zB _ _).alloc (zL _) _;exact hba.block b hb
 have hts:Own base w' ds:=h.kids.frame fun b hb=>hheap b (h.kids.lt b hb) fun e=>h.apart b e hb
 have htt:Own base w' x:=(hx.frame fun b hb=>hheap b (hx.lt b hb) fun e=>by have:=hl b (.inl e);have:=hx.lo b hb;omega).mono hb
 refine ⟨⟨n+1,hK,by rw[List.length_append,hn,hlen,Nat.succ_mul],by rw[zeh];exact hown⟩,hts.append htt fun y h1 h2=>?_,fun b hb'=>?_⟩
 ·have:=hl y (.inr h1)
  have:=hx.lo y h2;omega
 ·have hcase:b∈blk v\/b=wr.heap.size+1:=by
   unfold blk at hb' ⊢;rcases hat with e|e
   ·rw[e] at hb';exact .inl hb'
   ·rw[e] at hb';simp at hb';exact .inr hb'
  rw[zan];intro hm;rcases List.mem_append.1 hm with hm|hm
  ·rcases hcase with e|e
   ·exact h.apart b e hm
   ·have:=h.kids.lt b hm;omega
  ·rcases hcase with e|e
   ·have:=hl b (.inl e);have:=hx.lo b hm;omega
   ·have:=hx.lt b hm;omega
theorem Row.lt {base:Nat} {w:World} {T K:Nat} {ds:List D} {v:Value} (h:Row base w T K v ds):∀ b,b∈blk v\/b∈zah ds->base<=b/\b<w.heap.size:=by
 intro b hb;obtain ⟨n,_,_,ho⟩:=h.own;rcases hb with hb|hb
 ·exact zdb ho b hb
 ·exact ⟨h.kids.lo b hb,h.kids.lt b hb⟩
theorem Row.exc {F:List Nat} {base:Nat} {w w':World} {T K:Nat} {ds:List D} {v:Value} (h:Row base w T K v ds) (hx:Exc F w w') (hF:∀ x,x∈F->x<base):Row base w' T K v ds:=
 row_iff.1 (hx.keeps (row_iff.2 h) fun x h1 h2=>by have:=(row_iff.2 h).lo x h1;have:=hF x h2;omega)
theorem Own.exc {F:List Nat} {base:Nat} {w w':World} {ds:List D} (h:Own base w ds) (hx:Exc F w w') (hF:∀ x,x∈F->x<base):Own base w' ds:=
 hx.keeps h fun x h1 h2=>by have:=h.lo x h1;have:=hF x h2;omega
theorem Row.zu5 {base:Nat} {w:World} {T K n:Nat} {ds:List D} {v:Value} (h:Row base w T K v ds) (hn:ds.length=n*K):w.ownsRow base T K v n (vals ds):=by obtain ⟨m,hK,hm,ho⟩:=h.own;have:m=n:=Nat.eq_of_mul_eq_mul_right hK (by rw[<-hm,hn]);subst this;exact ho
theorem Row.form {base:Nat} {w:World} {T K n:Nat} {ds:List D} {v:Value} (h:Row base w T K v ds) (hn:ds.length=n*K):∃ a c,v=.slice a n c:=Kit.za5 (h.zu5 hn)
end Data
namespace ImplConcat
open Go.RowKit
open Strs Tree Go.Proofs.YtlmhgeanknhcfaaGreatDoor.Data
theorem z7m (n:Nat) (w:World) (hn:n<=4398046511104):
  Calls Tryz.prog 195 #[.slice none 0 0,.int .i64 n] w fun e w'=>∃ v',e=.returned v'/\w'.ownsRow w.heap.size 9 1 v' 0 []/\Below w.heap.size w w':=by
 by_cases h0:n=0
 ·subst h0
  go_enter Tryz.func195,Tryz.ntmps195;go_wp2_with fail
  go_ret;exact ⟨_,rfl,World.ownsRow_nil _ _ _ _,zB _ _⟩
 ·obtain ⟨i0,hi,hz0,hz1,hz2⟩:=info_parts yac
  have hrz:∀ ty,(Builtin.append_ #[22,3] ty #[.slice none 0 0,.int .i64 (n:Int)]).run Tryz.prog w =
    .ok (.slice (some ⟨w.heap.size,0,none⟩) n (grownCap w n 0 9)) (w.drew.alloc (.cells (#[]++Builtin.zeroCells (Value.string ByteArray.empty).cells n++Builtin.zeroCells (Value.string ByteArray.empty).cells (grownCap w n 0 9-n)) 9)):=fun ty=>by
   have h:=Lib.run_append_grow_zeros w 22 3 ty 9 i0 (.string ByteArray.empty) .i64 .i64 Tryz.underlying22 Tryz.underlying3 hi hz0 none 0 0 [] (run_firstCells_none w.drew i0.size 0 0 0) n (by omega) (by omega) (by omega) (by omega) (by rw[hz2];omega)
    (by rw[Nat.zero_add];exact growslice_fits (by omega) (by rw[hz2];omega))
   rw[Nat.zero_add] at h;exact h
  have hG:n<=grownCap w n 0 9:=grownCap_ge w _ _ _;have hGm:grownCap w n 0 9<=maxLen:=grownCap_le_maxLen w n 0 9 (by unfold maxLen;omega);generalize grownCap w n 0 9=G at *
  have hown:(w.drew.alloc (.cells (#[]++Builtin.zeroCells (Value.string ByteArray.empty).cells n++Builtin.zeroCells (Value.string ByteArray.empty).cells (G-n)) 9)).ownsRow w.heap.size 9 1 (.slice (some ⟨w.heap.size,0,none⟩) 0 G) 0 []:=
   World.ownsRow_made (base:=w.heap.size) (e:=9) (size:=1) w.drew _ G (zL _) hGm (by have e1:(Value.string ByteArray.empty).cells.size=1:=rfl;rw[Array.size_append,Array.size_append,size_zeroCells,size_zeroCells,e1];simp;omega)
  have hbw:Below w.heap.size w (w.drew.alloc (.cells (#[]++Builtin.zeroCells (Value.string ByteArray.empty).cells n++Builtin.zeroCells (Value.string ByteArray.empty).cells (G-n)) 9)):=((zB _ _).drew).alloc (zL _) _;have HO:=zH hown;have HB:=zH hbw;clear hown hbw;unfold maxLen at hGm;generalize w.drew.alloc (.cells (#[]++Builtin.zeroCells (Value.string ByteArray.empty).cells n++Builtin.zeroCells (Value.string ByteArray.empty).cells (G-n)) 9)=W at *
  have hpos:((n:Int) > 0):=by omega
  go_enter Tryz.func195,Tryz.ntmps195;go_wp2_with (at_builtin;refine Lib.wpList_append_run _ rfl _ _ _ _ rfl _ _ rfl rfl _ _ (hrz _) ?_)
  all_goals (go_ret;exact ⟨_,rfl,HO.out,HB.out⟩)
theorem z0d {l1 l2:Nat} {w:World} {xs ys:List ByteArray} {vx vy:Value} {g c:Nat} (hx:zbv l1 w xs vx) (fx:zfc vx xs.length) (hy:zbv l2 w ys vy) (fy:zfc vy ys.length) (h0:w.cell? ⟨g,0,none⟩=some vx) (h1:w.cell? ⟨g,1,none⟩=some vy) (hl:xs.length+ys.length<=4398046511104):
  Calls Tryz.prog 173 #[.slice (some ⟨g,0,none⟩) 2 c] w fun r w'=>∃ ra rc,r=.returned (.slice ra (xs.length+ys.length) rc)/\zbv w.heap.size w' (xs++ys) (.slice ra (xs.length+ys.length) rc)/\Below w.heap.size w w':=by
 have kg:=z7m (xs.length+ys.length) w hl;rw[Int.natCast_add] at kg;have KG:=zH kg;clear kg;have hgl:g<w.heap.size:=cell_lt h0;have HX:=zH hx;have HY:=zH hy;have FX:=zH fx;have FY:=zH fy;obtain ⟨pa,pc,rfl,-⟩:=id hx;obtain ⟨ta,tc,rfl,-⟩:=id hy;clear hx hy fx fy;generalize hn1:xs.length=n1 at *;generalize hn2:ys.length=n2 at *;have HN1:=zH hn1;have HN2:=zH hn2;clear hn1 hn2
 go_enter Tryz.func173,Tryz.ntmps173;go_wp2_with fail
 refine wp_loop_rounds 3 ?_;rw[rounds_succ];go_wp2_with fail
 rw[rounds_succ];go_wp2_with fail
 rw[rounds_succ];go_wp2_with fail
 refine KG.out.mono ?_;rintro e w1 ⟨v1,rfl,hown,hb1⟩;obtain ⟨ra,rc,rfl⟩:=Kit.za5 hown;have HO1:=zH hown;have HB1:=zH hb1;have k0:=cell_keep hb1 h0;have k1:=cell_keep hb1 h1;clear hown hb1 KG h0 h1;go_wp2_with fail
 refine wp_loop_rounds 3 ?_;rw[rounds_succ];go_wp2_with (at_builtin;go_must (refine zdz rfl _ _ rfl w.heap.size _ [] rfl HO1.out (.slice pa n1 pc) xs l1 rfl (HX.out.below HB1.out) (by rw[HN1.out];exact FX.out) (by rw[HN1.out];simp;omega) HB1.out.size ?_))
 intro v2 w2 hown hlow;have HO2:=zH hown;have HB2:=zH (HB1.out.trans hlow);have hg:g<w.heap.size:=hgl;have m1:=((hlow.cell (p:=⟨g,1,none⟩) hg).trans k1);obtain ⟨sa,sc,rfl⟩:=Kit.za5 hown;clear hown hlow HO1 HB1 k0 k1;go_wp2_with fail
 rw[rounds_succ];go_wp2_with (at_builtin;go_must (refine zdz rfl _ _ rfl w.heap.size _ xs rfl HO2.out (.slice ta n2 tc) ys l2 rfl (HY.out.below HB2.out) (by rw[HN2.out];exact FY.out) (by rw[HN1.out,HN2.out];exact hl) HB2.out.size ?_))
 intro v3 w3 hown hlow;have HB3:=zH (HB2.out.trans hlow);obtain ⟨ua,uc,rfl⟩:=Kit.za5 hown;have HO3:=zH hown;clear hown hlow HO2 HB2 m1;go_wp2_with fail
 rw[rounds_succ];go_wp2_with fail
 go_ret
 have hx:∀ x,x∈xs++ys->x.size<=maxLen:=fun x hx=>by
  obtain ⟨_,_,_,_,s1,_⟩:=HX.out;obtain ⟨_,_,_,_,s2,_⟩:=HY.out;rcases List.mem_append.1 hx with h1|h1
  ·exact s1 x h1
  ·exact s2 x h1
 have hr:Row w.heap.size _ 9 1 (.slice ua (xs++ys).length uc) (strs (xs++ys)):=zlk (by rw[List.length_append,List.map_append];exact HO3.out) hx;have ho:=row_iff.2 hr;have ht:=zdp (t:=9) (xs:=xs++ys) (zbo.1 ho.holds (.row 9 1 (.slice ua (xs++ys).length uc) (strs (xs++ys))) (by simp));rw[List.length_append,HN1.out,HN2.out] at ht;exact ⟨ua,uc,by rw[<-HN1.out,<-HN2.out];rfl,ht,HB3.out⟩
end ImplConcat
end Go.Proofs.YtlmhgeanknhcfaaGreatDoor
