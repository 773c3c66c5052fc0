/-
  SpecPat SpecPatW SpecMethW UnitMarks SpecParseM SpecCls SpecMts
-/
import Derived.Test.YtlmhgeanknhcfaaGreatDoorB19
import Derived.Test.YtlmhgeanknhcfaaGreatDoorB17
import Derived.Deep.RegionLaw
import Derived.Deep.AppendLies
import Derived.Deep.CutBlock
set_option maxHeartbeats 16000000
set_option maxRecDepth 10000
namespace Go.Proofs.YtlmhgeanknhcfaaGreatDoor
namespace Parser
open Go.RowKit
open Strs Tree Gram
open Go.Proofs.YtlmhgeanknhcfaaGreatDoor.Data (Cells zae D val)
def zou (s:ByteArray) (vp:Value):List D:=[.str s,.bool false,.row 0 1 vp [],.row 0 1 (.slice none 0 0) [],.row 0 5 (.slice none 0 0) []]
theorem Cells.turn {P:Cst} {B:Nat} {ds:List D} {wr w':World} (h:Cells B ds wr) (ht:za2 P wr w') (hB:B≠P.pb):Cells B ds w':=
 ⟨Nat.lt_of_lt_of_le h.1 ht.size,fun j hj=>(World.cell?_of_block (a:=⟨B,j,none⟩) (World.grownBy.block ht B h.1 (by simpa using hB))).trans (h.2 j hj)⟩
theorem zc0 {P:Cst} {B:Nat} {wr w':World} (h:∀ o,wr.frozen? ⟨B,o,none⟩=false) (hl:B<wr.heap.size) (ht:za2 P wr w') (hB:B≠P.pb):∀ o,w'.frozen? ⟨B,o,none⟩=false:=
 fun o=>(World.frozen?_of_block (a:=⟨B,o,none⟩) (World.grownBy.block ht B hl (by simpa using hB))).trans (h o)
structure Pat (P:Cst) (w:World) (s:ByteArray) (ps:List ByteArray) (vp:Value) (q:Nat) (b:Bool) (wr:World):Prop where
 z:Cells w.heap.size (zou ⟨#[]⟩ (.slice none 0 0)) wr
 zf:∀ o,wr.frozen? ⟨w.heap.size,o,none⟩=false
 c:Cells (w.heap.size+1) (zou s vp) wr
 cf:∀ o,wr.frozen? ⟨w.heap.size+1,o,none⟩=false
 own:wr.ownsRow (w.heap.size+2) 9 1 vp ps.length (ps.map Value.string)
 ps:PS P q b wr
 turn:za2 P w wr
 lo:Lo P w.heap.size
theorem Pat.go {P:Cst} {w wr w':World} {s:ByteArray} {xs:List ByteArray} {vp:Value} {q q':Nat} {b b':Bool} (h:Pat P w s xs vp q b wr) (ht:za2 P wr w') (hp:PS P q' b' w'):Pat P w s xs vp q' b' w':=
 ⟨Cells.turn h.z ht (by have:=h.lo.1;omega),zc0 h.zf h.z.1 ht (by have:=h.lo.1;omega),Cells.turn h.c ht (by have:=h.lo.1;omega),zc0 h.cf h.c.1 ht (by have:=h.lo.1;omega),zcg h.own ht (by have:=h.lo.1;omega),hp,h.turn.trans ht,h.lo⟩
theorem Pat.drawn {P:Cst} {w wr w':World} {s:ByteArray} {xs:List ByteArray} {vp:Value} {q:Nat} {b:Bool} (h:Pat P w s xs vp q b wr) (hd:zge wr w'):Pat P w s xs vp q b w':=h.go (zdu hd) (h.ps.drawn hd)
theorem zd1 {B:Nat} {ds:List D} {wr:World} (h:Cells B ds wr) (j:Nat) (d:D) (hj:j<ds.length) (hf:∀ o,wr.frozen? ⟨B,o,none⟩=false):Cells B (ds.set j d) (wr.setCell ⟨B,j,none⟩ (val d)):=Data.Cells.set h j d hj (hf j)
theorem zbg {B g o:Nat} {wr:World} (h:∀ o,wr.frozen? ⟨B,o,none⟩=false) (v:Value):∀ p,(wr.setCell ⟨g,o,none⟩ v).frozen? ⟨B,p,none⟩=false:=fun p=>by have:=h p;go_simp
theorem zht {wr:World} {B:Nat} (o:Nat) (v:Value):Below B wr (wr.setCell ⟨B,o,none⟩ v):=(zB _ _).setCell (by show B<=B;omega) _
theorem Pat.sel {P:Cst} {w wr:World} {s:ByteArray} {xs:List ByteArray} {vp:Value} {q:Nat} {b:Bool} (h:Pat P w s xs vp q b wr) (s':ByteArray):Pat P w s' xs vp q b (wr.setCell ⟨w.heap.size+1,0,none⟩ (.string s')):=by have hb:=zht (wr:=wr) (B:=w.heap.size+1) 0 (.string s');have hc:=zd1 h.c 0 (.str s') (by simp[zou]) h.cf;exact ⟨Data.zb5 h.z _ (by omega),zbg h.zf _,hc,zbg h.cf _,zft h.own _ _ (by show w.heap.size+1<w.heap.size+2;omega),h.ps.low hb (h.lo.le (Nat.le_succ _)),h.turn.low (hb.mono (Nat.le_succ _)),h.lo⟩
theorem Pat.par {P:Cst} {w wr w1:World} {s:ByteArray} {xs ys:List ByteArray} {vp v':Value} {q:Nat} {b:Bool} (h:Pat P w s xs vp q b wr) (hb1:Below (w.heap.size+2) wr w1) (ho:w1.ownsRow (w.heap.size+2) 9 1 v' ys.length (ys.map Value.string)):Pat P w s ys v' q b (w1.setCell ⟨w.heap.size+1,2,none⟩ v'):=by
 have hb:=zht (wr:=w1) (B:=w.heap.size+1) 2 v';have hc1:=Data.zbs h.c hb1 (by omega);have hf1:=Data.zb3 h.cf hb1 (by omega);have hc:=zd1 hc1 2 (.row 0 1 v' []) (by simp[zou]) hf1;have hbb:=(hb1.mono (Nat.le_succ _)).trans hb;exact ⟨Data.zb5 (Data.zbs h.z hb1 (by omega)) _ (by omega),zbg (Data.zb3 h.zf hb1 (by omega)) _,hc,zbg hf1 _,zft ho _ _ (by show w.heap.size+1<w.heap.size+2;omega),h.ps.low hbb (h.lo.le (Nat.le_succ _)),h.turn.low (hbb.mono (Nat.le_succ _)),h.lo⟩
theorem ybr {P:Cst} {p:Nat} {w:World} (h:PS P p false w):Pat P w ⟨#[]⟩ [] (.slice none 0 0) p false ((w.alloc (.cells #[.string ⟨#[]⟩,.bool false,.slice none 0 0,.slice none 0 0,.slice none 0 0] 41)).alloc (.cells #[.string ⟨#[]⟩,.bool false,.slice none 0 0,.slice none 0 0,.slice none 0 0] 41)):=by
 have hb:Below w.heap.size w ((w.alloc (.cells #[.string ⟨#[]⟩,.bool false,.slice none 0 0,.slice none 0 0,.slice none 0 0] 41)).alloc (.cells #[.string ⟨#[]⟩,.bool false,.slice none 0 0,.slice none 0 0,.slice none 0 0] 41)):=((zB _ _).alloc (zL _) _).alloc (by simp) _;have hc:=zae (w.alloc (.cells #[.string ⟨#[]⟩,.bool false,.slice none 0 0,.slice none 0 0,.slice none 0 0] 41)) (zou ⟨#[]⟩ (.slice none 0 0)) 41
 rw[show (w.alloc (.cells #[.string ⟨#[]⟩,.bool false,.slice none 0 0,.slice none 0 0,.slice none 0 0] 41)).heap.size=w.heap.size+1 by simp] at hc
 exact ⟨(zae w (zou ⟨#[]⟩ (.slice none 0 0)) 41).step ((zB _ _).alloc (zL _) _),fun o=>by go_simp,hc,fun o=>by go_simp,⟨by simp,.inl ⟨rfl,rfl⟩⟩,h.below hb,(za2.refl P w).below hb,h.lo⟩
def zkp (P:Cst) (w:World) (g:Option (ByteArray×List ByteArray×R)) (e:Ending) (w':World):Prop:=
 ∃ s ps a c q b,e=.returned (.agg #[.string s,.bool false,.slice a ps.length c,.slice none 0 0,.slice none 0 0])/\w'.ownsRow (w.heap.size+2) 9 1 (.slice a ps.length c) ps.length (ps.map Value.string)/\ps.length<=801/\(∀ x,x∈ps->x.size<=4000)/\s.size<=4000000/\PS P q b w'/\za2 P w w'/\g=Got b (s,ps,rest P q)
end Parser
namespace Parser
open Go.RowKit
open Strs Tree Gram
open Go.Proofs.YtlmhgeanknhcfaaGreatDoor.Data (Cells zae D val)
theorem zw1 {r:R} (h:hd 1 r=true):zoe r=some (txt r,[],r.tail):=by rw[zoe,if_pos h]
theorem ycd {r:R} (h:hd 1 r=false) (h6:hd 6 r=true):zoe r=if hd 1 r.tail then some (txt r,[txt r.tail],r.tail.tail) else none:=by rw[zoe,h,if_pos h6];rfl
theorem ya0 {r:R} (h:hd 1 r=false) (h6:hd 6 r=false):zoe r=zdx none_ [] r:=by rw[zoe,h,h6];rfl
theorem zwj {P:Cst} {p q:Nat} {s x:ByteArray} {b:Bool} (h:zoe (rest P p)=if hd 1 (rest P p).tail then some (s,[txt (rest P p).tail],(rest P p).tail.tail) else none)
  (hn:b=false->false=false/\isB 1 ⟨#[]⟩ (rest P (p+1))=true/\q=p+1+1/\x=txt (rest P (p+1))) (hy:b=true->false=true\/isB 1 ⟨#[]⟩ (rest P (p+1))=false):zoe (rest P p)=Got b (s,[x],rest P q):=by
 rw[h,zab,zab,<-zbw];cases b with
 | true=>
  rcases hy rfl with h1|h1
  ·cases h1
  ·rw[h1];rfl
 | false=>obtain ⟨-,h1,rfl,rfl⟩:=hn rfl;rw[h1];rfl
theorem zsw {P:Cst} {q q5:Nat} {s x:ByteArray} {ps:List ByteArray} {b:Bool} (h:isB 2 ⟨#[]⟩ (rest P q)=true)
  (hn:b=false->false=false/\isB 1 ⟨#[]⟩ (rest P (q+1))=true/\q5=q+1+1/\x=txt (rest P (q+1))) (hy:b=true->false=true\/isB 1 ⟨#[]⟩ (rest P (q+1))=false):
  (b=false->zdx s ps (rest P q)=zdx (s++txt (rest P q)) (ps++[x]) (rest P q5))/\(b=true->zdx s ps (rest P q)=none):=by
 rw[zbw] at h;refine ⟨fun e=>?_,fun e=>?_⟩
 ·obtain ⟨-,h1,rfl,rfl⟩:=hn e
  rw[zbw] at h1;rw[zne h (by rw[zab];exact h1),zab,zab]
 ·rcases hy e with h1|h1
  ·cases h1
  ·rw[zbw] at h1
   exact zkt h (by rw[zab];exact h1)
theorem zb9 (w:World) (k:Nat):Below w.heap.size w (w.drewN k):=⟨rfl,rfl,rfl,zL _,fun _ _=>rfl⟩
theorem zwt {P:Cst} {p q:Nat} {b:Bool} {s:ByteArray} {ps:List ByteArray} (h:zoe (rest P p)=Got b (s,ps,rest P q)):pattern (rest P p)=Got (b||decide (s.size=0)) (s,ps,rest P q):=by
 unfold pattern;rw[h];cases b with
 | true=>rfl
 | false=>
  by_cases hs:s.size=0
  ·simp[Got,hs]
  ·simp[Got,hs]
theorem Pat.out {P:Cst} {w wr:World} {s:ByteArray} {xs:List ByteArray} {vp:Value} {q:Nat} {b:Bool} (h:Pat P w s xs vp q b wr) (vs:List Value):
  (Data.puts wr w.heap.size 0 vs).ownsRow (w.heap.size+2) 9 1 vp xs.length (xs.map Value.string)/\PS P q b (Data.puts wr w.heap.size 0 vs)/\za2 P w (Data.puts wr w.heap.size 0 vs):=by
 have hb:=Data.zbl (zL w.heap.size) vs wr wr 0 (zB _ _);refine ⟨?_,h.ps.low hb h.lo,h.turn.low hb⟩
 have go:∀ (vs:List Value) (w0:World) (p:Nat),w0.ownsRow (w.heap.size+2) 9 1 vp xs.length (xs.map Value.string)->(Data.puts w0 w.heap.size p vs).ownsRow (w.heap.size+2) 9 1 vp xs.length (xs.map Value.string):=by
  intro vs
  induction vs with
  | nil=>intro w0 p h;exact h
  | cons v vs ih=>intro w0 p h;exact ih _ _ (zft h _ _ (by show w.heap.size<_;omega))
 exact go vs wr 0 h.own
theorem zkx {P:Cst} {p:Nat} {w:World} (h:PS P p false w):
  Calls Tryz.prog 100 #[.pointer (some ⟨P.pb,0,none⟩)] w (zkp P w (pattern (rest P p))):=by
 obtain ⟨i0,hi,hz0,hz1,hz2⟩:=info_parts zs6;have HP0:=zH (ybr h);have HLE:=zH h.fit;have hpb:=h.size;generalize hG:pattern (rest P p)=G;have HG:=zH hG;clear hG h;go_enter Tryz.func100,Tryz.ntmps100
 go_upto_block 0 with fail
 go_cut [] from 4 to 45 (fun wx=>∃ s ps a c q b,Pat P w s ps (.slice a ps.length c) q b wx/\ps.length<=801/\(∀ x,x∈ps->x.size<=4000)/\s.size<=4000000/\zoe (rest P p)=Got b (s,ps,rest P q))
 case rest=>
  clear HP0;obtain ⟨s,ps,a,c,q,b,hpat,hl,hx,hs,hg⟩:=hcut;have HPAT:=zH hpat;have HL:=zH (And.intro hl (And.intro hx hs));have HGE:=zH (HG.out.symm.trans (zwt hg));have c0:=hpat.c.at 0 (.str s) rfl;have c1:=hpat.c.at 1 (.bool false) rfl;have c2:=hpat.c.at 2 (.row 0 1 (.slice a ps.length c) []) rfl;have c3:=hpat.c.at 3 (.row 0 1 (.slice none 0 0) []) rfl;have c4:=hpat.c.at 4 (.row 0 5 (.slice none 0 0) []) rfl
  simp only[val] at c0 c1 c2 c3 c4;clear hpat hl hx hs hg HG;by_cases hsz:s.size=0
  ·have hse:s=⟨#[]⟩:=by
    apply ByteArray.ext;exact Array.eq_empty_of_size_eq_zero hsz
   subst hse;have n2:=HPAT.out.ps.c2;have nf:=HPAT.out.ps.fz 2;have HPB:=zH (HPAT.out.go ((za2.refl P _).set 2 (.bool true)) HPAT.out.ps.no);have z0:=HPB.out.z.at 0 (.str ⟨#[]⟩) rfl;have z1:=HPB.out.z.at 1 (.bool false) rfl;have z2:=HPB.out.z.at 2 (.row 0 1 (.slice none 0 0) []) rfl;have z3:=HPB.out.z.at 3 (.row 0 1 (.slice none 0 0) []) rfl;have z4:=HPB.out.z.at 4 (.row 0 5 (.slice none 0 0) []) rfl
   have d0:=HPB.out.c.at 0 (.str ⟨#[]⟩) rfl;have d1:=HPB.out.c.at 1 (.bool false) rfl;have d2:=HPB.out.c.at 2 (.row 0 1 (.slice a ps.length c) []) rfl;have d3:=HPB.out.c.at 3 (.row 0 1 (.slice none 0 0) []) rfl;have d4:=HPB.out.c.at 4 (.row 0 5 (.slice none 0 0) []) rfl;simp only[val] at z0 z1 z2 z3 z4 d0 d1 d2 d3 d4;have zf:=HPB.out.zf;clear hsz;go_wp2_with fail
   refine bodyPost_ret (v:=.agg #[.string ⟨#[]⟩,.bool false,.slice a ps.length c,.slice none 0 0,.slice none 0 0]) (by simp[results,Tryz.results100,go_sem, *]) rfl ?_;obtain ⟨k1,k2,k3⟩:=HPB.out.out [.string ⟨#[]⟩,.bool false,.slice a ps.length c,.slice none 0 0,.slice none 0 0];refine ⟨⟨#[]⟩,ps,a,c,q,true,rfl,k1,HL.out.1,HL.out.2.1,HL.out.2.2,k2,k3,?_⟩;have hge:=HGE.out;have e:(b||decide ((⟨#[]⟩:ByteArray).size=0))=true:=by cases b<;>rfl
   rw[e] at hge;exact hge
  ·have hse:=zhr hsz
   have z0:=HPAT.out.z.at 0 (.str ⟨#[]⟩) rfl;have z1:=HPAT.out.z.at 1 (.bool false) rfl;have z2:=HPAT.out.z.at 2 (.row 0 1 (.slice none 0 0) []) rfl;have z3:=HPAT.out.z.at 3 (.row 0 1 (.slice none 0 0) []) rfl;have z4:=HPAT.out.z.at 4 (.row 0 5 (.slice none 0 0) []) rfl;simp only[val] at z0 z1 z2 z3 z4;have zf:=HPAT.out.zf;have HSZ:=zH hsz;clear hsz;go_wp2_with fail
   refine bodyPost_ret (v:=.agg #[.string s,.bool false,.slice a ps.length c,.slice none 0 0,.slice none 0 0]) (by simp[results,Tryz.results100,go_sem, *]) rfl ?_;obtain ⟨k1,k2,k3⟩:=HPAT.out.out [.string s,.bool false,.slice a ps.length c,.slice none 0 0,.slice none 0 0];refine ⟨s,ps,a,c,q,b,rfl,k1,HL.out.1,HL.out.2.1,HL.out.2.2,k2,k3,?_⟩;have hge:=HGE.out;rw[decide_eq_false HSZ.out,Bool.or_false] at hge
   exact hge
 case first=>
 clear HG;go_wp2_with fail
 refine (ze4 HP0.out.ps 1 ⟨#[]⟩).mono ?_;rintro e w1 ⟨rfl,hd1⟩;have HP1:=zH (HP0.out.drawn hd1);have HH1:=zH (zbw 1 (rest P p));clear hd1 HP0;generalize hb1:isB 1 ⟨#[]⟩ (rest P p)=b1 at *;have HB1:=zH hb1;clear hb1;cases b1 with
 | true=>
  go_wp2_with fail
  refine (zck HP1.out.ps HB1.out).mono ?_;rintro e w2 ⟨rfl,hp2,ht2⟩;have HP2:=zH (HP1.out.go ht2 hp2);have HPE:=zH (show zoe (rest P p)=Got false (txt (rest P p),[],rest P (p+1)) by rw[zw1 HH1.out.symm,zab];rfl)
  have htl:=zH (zcn (p:=p) HLE.out);have c0:=HP2.out.c.at 0 (.str ⟨#[]⟩) rfl;have f0:=HP2.out.cf 0;simp only[val] at c0;clear hp2 ht2 HP1;generalize txt (rest P p)=s at *;have HP3:=zH (HP2.out.sel s);clear HP2;go_wp2_with fail
  go_meet
  exact ⟨s,[],none,0,p+1,false,HP3.out,by simp,(fun x hx=>by cases hx),Nat.le_trans htl.out (by omega),HPE.out⟩
 | false=>
 go_wp2_with fail
 refine (ze4 HP1.out.ps 6 ⟨#[]⟩).mono ?_;rintro e w2 ⟨rfl,hd2⟩;have HP2:=zH (HP1.out.drawn hd2);have HH2:=zH (zbw 6 (rest P p));clear hd2 HP1;generalize hb2:isB 6 ⟨#[]⟩ (rest P p)=b2 at *;have HB2:=zH hb2;clear hb2;cases b2 with
 | true=>
  go_wp2_with fail
  refine (zck HP2.out.ps HB2.out).mono ?_;rintro e w3 ⟨rfl,hp3,ht3⟩;have HP3:=zH (HP2.out.go ht3 hp3);have htl:=zH (zcn (p:=p) HLE.out);have HPT:=zH (ycd HH1.out.symm HH2.out.symm);have c0:=HP3.out.c.at 0 (.str ⟨#[]⟩) rfl;have f0:=HP3.out.cf 0;simp only[val] at c0;clear hp3 ht3 HP2;generalize txt (rest P p)=s at *;have HP4:=zH (HP3.out.sel s);have c2:=HP4.out.c.at 2 (.row 0 1 (.slice none 0 0) []) rfl
  have cf:=HP4.out.cf 2;simp only[val] at c2;clear HP3
  go_upto_region 9 with fail
  clear c0 f0;generalize w3.setCell ⟨w.heap.size+1,0,none⟩ (.string s)=w4 at *;have KN:=fun k=>zH (zf0 (HP4.out.ps.draws k) 1 ⟨#[]⟩)
  have hs4:=HP4.out.c.1;have e2:∀ k,(w4.drewN k).cell? ⟨w.heap.size+1,2,none⟩=some (.slice none 0 0):=fun k=>cell_keep (zb9 w4 k) c2
  have ef:∀ k,(w4.drewN k).frozen? ⟨w.heap.size+1,2,none⟩=false:=fun k=>((zb9 w4 k).frozen (p:=⟨w.heap.size+1,2,none⟩) hs4).trans cf
  go_region_law
   (first
   | (
    rw[if_pos (by rfl)];unfold Oper.wp
    go_simp
    refine (KN _).out.mono ?_;rintro e w5 ⟨x,q5,b5,rfl,hp5,ht5,hx5,hq5,hn5,hy5⟩;have htd:=((za2.refl P w4).below (zb9 w4 _)).trans ht5;have HP5:=zH (HP4.out.go htd hp5);have HX5:=zH (And.intro hx5 (And.intro hn5 hy5));have k2:=HP5.out.c.at 2 (.row 0 1 (.slice none 0 0) []) rfl;have k3:=HP5.out.cf 2;simp only[val] at k2;have hsf:=HP5.out.c.1;have a2:∀ o,(w5.alloc o).cell? ⟨w.heap.size+1,2,none⟩=some (.slice none 0 0):=fun o=>cell_keep ((zB _ _).alloc (zL _) o) k2
    have a3:∀ o,(w5.alloc o).frozen? ⟨w.heap.size+1,2,none⟩=false:=fun o=>(((zB w5.heap.size w5).alloc (zL _) o).frozen (p:=⟨w.heap.size+1,2,none⟩) hsf).trans k3
    have a4:∀ o,(w5.alloc o).drew.cell? ⟨w.heap.size+1,2,none⟩=some (.slice none 0 0):=fun o=>a2 o
    have a5:∀ o,(w5.alloc o).drew.frozen? ⟨w.heap.size+1,2,none⟩=false:=fun o=>a3 o
    have hsp:w.heap.size+2<=w5.heap.size:=by omega
    clear hp5 ht5 htd hx5 hn5 hy5 hq5)
   | (
    refine step_append_lies _ (by rfl) _ _ _ (by rfl) (w.heap.size+2) 9 i0 (.string ByteArray.empty) 1 16 Tryz.underlying22 hi hz0 hz1 hz2 rfl (by decide) _ 0 [] (by rfl) (own_keep HP5.out.own (by first|exact (zB _ _).alloc (zL _) _|exact ((zB _ _).alloc (zL _) _).drew|exact ((zB _ _).drew).alloc (zL _) _))
     ⟨w5.heap.size,0,none⟩ 1 1 [.string x] (by rfl) (by rfl) (World.news_of_block (cs:=#[.string x]) (t:=9) (fr:=(0,0)) (heap_alloc_new w5 _)) (by intro u hu;simp at hu;subst hu;rfl)
     (by omega) (by unfold maxLen;omega) (by omega) (by simp;omega) (w5.heap.size+1) (by simp) ?_
    intro g cap w8 hown hgrow hat hlt;have hbw:Below (w.heap.size+2) w5 w8:=zdy (base:=w.heap.size+2) hsp HP5.out.own hgrow;have hc8:=Data.zbs HP5.out.c hbw (by omega);have hf8:=Data.zb3 HP5.out.cf hbw (by omega);have m4:=hc8.at 2 (.row 0 1 (.slice none 0 0) []) rfl;simp only[val] at m4;have m5:=hf8 2))
  all_goals
   have HP6:=zH (HP5.out.par (ys:=[x]) hbw (by simpa using hown));have HGO:=zH (zwj HPT.out HX5.out.2.1 HX5.out.2.2);clear HP5 hown hgrow hat hbw hc8 hf8 m4 m5 KN HP4;go_wp2_with fail
   go_meet
   exact ⟨s,[x],some ⟨g,0,none⟩,cap,q5,b5,HP6.out,by simp,(fun y hy=>by simp at hy;subst hy;exact HX5.out.1),Nat.le_trans htl.out (by omega),HGO.out⟩
 | false=>
  have HPK:=zH (ya0 HH1.out.symm HH2.out.symm);go_wp2_with fail
  go_loopw [] (fun wr=>∃ s ps a c q b,Pat P w s ps (.slice a ps.length c) q b wr/\2*ps.length<=P.toks.length+2/\(b=false->2*ps.length<=q)/\(∀ x,x∈ps->x.size<=4000)/\s.size<=4000*ps.length/\(b=false->zoe (rest P p)=zdx s ps (rest P q))/\(b=true->zoe (rest P p)=none)) (fun wr=>left P.pb P.toks.length wr)
  case atStart=>exact ⟨_,[],none,0,p,false,HP2.out,by simp,fun _=>by simp,(fun x hx=>by cases hx),Nat.zero_le _,fun _=>HPK.out,fun e=>by cases e⟩
  case round=>
   obtain ⟨s,ps,a,c,q,b,hpat,hlen,hlq,hsz,hss,hgo,hbad⟩:=hrel;have HPAT:=zH hpat;have HLEN:=zH hlen;have HLQ:=zH hlq;have HSZ:=zH hsz;have HSS:=zH hss;have HGO:=zH hgo;have HBAD:=zH hbad;have n2:=hpat.ps.c2;clear hpat hlen hlq hsz hss hgo hbad;cases b with
   | true=>
    go_wp2_with fail
    go_meet
    have h1:=HLEN.out;have h2:=HSS.out;have h3:=HLE.out.len;exact ⟨s,ps,a,c,q,true,HPAT.out,by omega,HSZ.out,by omega,HBAD.out (by trivial)⟩
   | false=>
    have K:=zH (ze4 HPAT.out.ps 2 ⟨#[]⟩);have hlf:=zH (HPAT.out.ps.ze5 P.toks.length);cases hb:isB 2 ⟨#[]⟩ (rest P q) with
    | false=>
     rw[hb] at K;have HG2:=zH (HGO.out (by trivial));have HB:=zH hb;clear hb;go_wp2_with fail
     refine K.out.mono ?_;rintro e w2 ⟨rfl,hd⟩;have HP3:=zH (HPAT.out.drawn hd);clear hd;go_wp2_with fail
     go_meet
     have h1:=HLEN.out;have h2:=HSS.out;have h3:=HLE.out.len;exact ⟨s,ps,a,c,q,false,HP3.out,by omega,HSZ.out,by omega,by rw[HG2.out,zgf (by rw[<-zbw];exact HB.out)];rfl⟩
    | true=>
     rw[hb] at K;have HB:=zH hb;have hqN:=zkc hb;clear hb;go_wp2_with fail
     refine K.out.mono ?_;rintro e w2 ⟨rfl,hd⟩;have HP3:=zH (HPAT.out.drawn hd);clear hd K;have hx4:=zH (zcn (p:=q) HLE.out);have KN:=fun k=>zH (zck (HP3.out.ps.draws k) HB.out)
     have c0:=HP3.out.c.at 0 (.str s) rfl;simp only[val] at c0;have hsf:=HP3.out.c.1;have f0:=HP3.out.cf 0;have d0:∀ k,(w2.drewN k).cell? ⟨w.heap.size+1,0,none⟩=some (.string s):=fun k=>cell_keep (zb9 w2 k) c0
     have df:∀ k,(w2.drewN k).frozen? ⟨w.heap.size+1,0,none⟩=false:=fun k=>((zb9 w2 k).frozen (p:=⟨w.heap.size+1,0,none⟩) hsf).trans f0
     go_upto_region 3 with fail
     go_cut [] from 5 to 26 (fun wx=>Pat P w (s++txt (rest P q)) ps (.slice a ps.length c) (q+1) false wx)
     case first=>
      generalize txt (rest P q)=x at *
      have hadd:¬9223372036854775807<s.size+x.size:=by have h1:=hx4.out;have h2:=HSS.out;have h3:=HLE.out.len;have h4:=HLEN.out;omega
      go_region_law
       (first
       | (
        unfold Oper.wp
        go_simp
        refine (KN _).out.mono ?_;rintro e w5 ⟨rfl,hp5,ht5⟩;have htd:=((za2.refl P w2).below (zb9 w2 _)).trans ht5;have HP5:=zH (HP3.out.go htd hp5);have k0:=HP5.out.c.at 0 (.str s) rfl;have k1:=HP5.out.cf 0;simp only[val] at k0;have hsg:=HP5.out.c.1;have a0:∀ k,(w5.drewN k).cell? ⟨w.heap.size+1,0,none⟩=some (.string s):=fun k=>cell_keep (zb9 w5 k) k0
        have af:∀ k,(w5.drewN k).frozen? ⟨w.heap.size+1,0,none⟩=false:=fun k=>((zb9 w5 k).frozen (p:=⟨w.heap.size+1,0,none⟩) hsg).trans k1
        clear hp5 ht5 htd))
      all_goals
       have HP6:=zH (HP5.out.sel (s++x));go_wp2_with fail
       go_meet
       exact HP6.out
     case rest=>
      have HP4:=zH hcut;clear hcut HP3 KN c0 f0 d0 df
      go_upto_region 4 with fail
      have KN:=fun k=>zH (zf0 (HP4.out.ps.draws k) 1 ⟨#[]⟩)
      have hs4:=HP4.out.c.1;have c2:=HP4.out.c.at 2 (.row 0 1 (.slice a ps.length c) []) rfl;have cf:=HP4.out.cf 2;simp only[val] at c2;have e2:∀ k,(wc.drewN k).cell? ⟨w.heap.size+1,2,none⟩=some (.slice a ps.length c):=fun k=>cell_keep (zb9 wc k) c2
      have ef:∀ k,(wc.drewN k).frozen? ⟨w.heap.size+1,2,none⟩=false:=fun k=>((zb9 wc k).frozen (p:=⟨w.heap.size+1,2,none⟩) hs4).trans cf
      have hl800:2*ps.length<=q:=HLQ.out (by trivial);have hf800:=HLE.out.len
      go_region_law
       (first
       | (
        unfold Oper.wp
        go_simp
        refine (KN _).out.mono ?_;rintro e w5 ⟨x,q5,b5,rfl,hp5,ht5,hx5,hq5,hn5,hy5⟩;have htd:=((za2.refl P wc).below (zb9 wc _)).trans ht5;have HP5:=zH (HP4.out.go htd hp5);have HX5:=zH (And.intro hx5 (And.intro hn5 hy5));have k2:=HP5.out.c.at 2 (.row 0 1 (.slice a ps.length c) []) rfl;have k3:=HP5.out.cf 2;simp only[val] at k2;have hsf:=HP5.out.c.1;have a2:∀ o,(w5.alloc o).cell? ⟨w.heap.size+1,2,none⟩=some (.slice a ps.length c):=fun o=>cell_keep ((zB _ _).alloc (zL _) o) k2
        have a3:∀ o,(w5.alloc o).frozen? ⟨w.heap.size+1,2,none⟩=false:=fun o=>(((zB w5.heap.size w5).alloc (zL _) o).frozen (p:=⟨w.heap.size+1,2,none⟩) hsf).trans k3
        have a4:∀ o,(w5.alloc o).drew.cell? ⟨w.heap.size+1,2,none⟩=some (.slice a ps.length c):=fun o=>a2 o
        have a5:∀ o,(w5.alloc o).drew.frozen? ⟨w.heap.size+1,2,none⟩=false:=fun o=>a3 o
        have hsp:w.heap.size+2<=w5.heap.size:=by omega
        clear hp5 ht5 htd hx5 hn5 hy5)
       | (
        refine step_append_lies _ (by rfl) _ _ _ (by rfl) (w.heap.size+2) 9 i0 (.string ByteArray.empty) 1 16 Tryz.underlying22 hi hz0 hz1 hz2 rfl (by decide) _ ps.length (ps.map Value.string) (by rfl) (own_keep HP5.out.own (by first|exact (zB _ _).alloc (zL _) _|exact ((zB _ _).alloc (zL _) _).drew|exact ((zB _ _).drew).alloc (zL _) _))
         ⟨w5.heap.size,0,none⟩ 1 1 [.string x] (by rfl) (by rfl) (World.news_of_block (cs:=#[.string x]) (t:=9) (fr:=(0,0)) (heap_alloc_new w5 _)) (by intro u hu;simp at hu;subst hu;rfl)
         (by omega) (by unfold maxLen;omega) (by omega) (by simp;omega) (w5.heap.size+1) (by simp) ?_
        intro g cap w8 hown hgrow hat hlt;have hbw:Below (w.heap.size+2) w5 w8:=zdy (base:=w.heap.size+2) hsp HP5.out.own hgrow;have hc8:=Data.zbs HP5.out.c hbw (by omega);have hf8:=Data.zb3 HP5.out.cf hbw (by omega);have m4:=hc8.at 2 (.row 0 1 (.slice a ps.length c) []) rfl;simp only[val] at m4;have m5:=hf8 2))
      all_goals
       have HP6:=zH (HP5.out.par (ys:=ps++[x]) hbw (by simpa using hown));have HST:=zH (zsw (s:=s) (ps:=ps) HB.out HX5.out.2.1 HX5.out.2.2);have HG5:=zH (HGO.out (by trivial));have hln:(ps++[x]).length=ps.length+1:=by simp
       have hx41:=hx4.out;have hss1:=HSS.out;have hlf1:=hlf.out;have hx51:=HX5.out.2.1;clear HP5 hown hgrow hat hbw hc8 hf8 m4 m5 KN;go_wp2_with fail
       go_roundw
       case rel=>
        refine ⟨s++txt (rest P q),ps++[x],some ⟨g,0,none⟩,cap,q5,b5,by rw[hln];exact HP6.out,by rw[hln];omega,fun e=>?_,?_,?_,fun e=>?_,fun e=>?_⟩
        ·rw[hln];have:=(hx51 e).2.2.1;omega
        ·intro y hy
         rcases List.mem_append.1 hy with hy|hy
         ·exact HSZ.out y hy
         ·rw[List.mem_singleton.1 hy];exact HX5.out.1
        ·rw[hln,ByteArray.size_append];omega
        ·exact HG5.out.trans (HST.out.1 e)
        ·exact HG5.out.trans (HST.out.2 e)
       case measure=>
        rw[hlf1];cases b5 with
        | true=>rw[HP6.out.ps.zhh];omega
        | false=>rw[HP6.out.ps.ze5];have:=(hx51 rfl).2.2.1;omega
end Parser
namespace Parser
open Go.RowKit
open Strs Tree Gram
open Go.Proofs.YtlmhgeanknhcfaaGreatDoor.Data (Cells zae D val M MAt)
theorem z8v {P:Cst} {p q1 q2 q3:Nat} {b1 b2 b3 cls:Bool} {ex:X} {s:ByteArray} {ps ts:List ByteArray} {L:List E} (h1:pattern (rest P p)=Got b1 (s,ps,rest P q1))
  (h2:(b2=false->b1=false/\names (rest P q1)=some (ts,rest P q2))/\(b2=true->b1=true\/names (rest P q1)=none))
  (h3:(b2=true->b3=true)/\(b2=false->zby ex [] (rest P q2)=Got b3 (L,rest P q3))):zrv ex cls (rest P p)=Got b3 (⟨s,cls,ps,ts,L⟩,rest P q3):=by
 unfold zrv;rw[h1];cases b1 with
 | true=>
  have e2:b2=true:=by
   cases b2 with
   | true=>rfl
   | false=>exact absurd (h2.1 rfl).1 (by simp)
  rw[h3.1 e2];rfl
 | false=>
  simp only[Got,Bool.false_eq_true,if_false];cases b2 with
  | true=>
   rw[h3.1 rfl];rcases h2.2 rfl with h|h
   ·cases h
   ·rw[h];rfl
  | false=>rw[(h2.1 rfl).2];simp only;rw[h3.2 rfl];cases b3<;>rfl
def z9s (P:Cst) (w:World) (cls:Bool) (g:Option (M×R)) (e:Ending) (w':World):Prop:=
 ∃ m v2 v3 v4 q b,e=.returned (.agg #[.string m.sel,.bool cls,v2,v3,v4])/\m.cls=cls/\MAt w.heap.size w' m v2 v3 v4/\PS P q b w'/\za2 P w w'/\g=Got b (m,rest P q)
theorem MAt.keep {lo hi:Nat} {w w':World} {m:M} {v2 v3 v4:Value} (h:MAt hi w m v2 v3 v4) (hl:lo<=hi) (hk:Kept hi w w'):MAt lo w' m v2 v3 v4:=
 ⟨h.sel,h.params.keep hl hk,h.temps.keep hl hk,h.body.keep hl hk,h.fparams,h.ftemps⟩
theorem zh6 (lo:Nat) (w:World):zbv lo w [] (.slice none 0 0):=⟨none,0,rfl,⟨zL _,Nat.zero_le _⟩,(fun _ h=>nomatch h),fun h=>absurd h (by simp)⟩
theorem zjx (lo:Nat) (w:World):zdh lo w [] (.slice none 0 0):=⟨none,0,rfl,⟨zL _,Nat.zero_le _⟩,fun h=>absurd h (by simp)⟩
structure Mth (P:Cst) (w w1:World) (m:M) (vp vt vb:Value) (q:Nat) (b:Bool) (wr:World):Prop where
 z:Cells w.heap.size (zou ⟨#[]⟩ (.slice none 0 0)) wr
 zf:∀ o,wr.frozen? ⟨w.heap.size,o,none⟩=false
 c:Cells w1.heap.size (Data.zp2 m vp vt vb) wr
 cf:∀ o,wr.frozen? ⟨w1.heap.size,o,none⟩=false
 lt:w.heap.size<w1.heap.size
 sel:m.sel.size<=maxLen
 par:zbv (w.heap.size+1) w1 m.params vp
 tem:zbv (w1.heap.size+1) wr m.temps vt
 bod:zdh (w1.heap.size+1) wr m.body vb
 fp:Data.zfc vp m.params.length
 ft:Data.zfc vt m.temps.length
 ps:PS P q b wr
 turn:za2 P w1 wr
 lo:Lo P w.heap.size
theorem ybh {P:Cst} {w w1:World} {s:ByteArray} {ps:List ByteArray} {vp:Value} {q:Nat} {b cls:Bool} (z:Cells w.heap.size (zou ⟨#[]⟩ (.slice none 0 0)) w1) (zf:∀ o,w1.frozen? ⟨w.heap.size,o,none⟩=false) (hs:s.size<=maxLen) (hp:zbv (w.heap.size+1) w1 ps vp) (hf:Data.zfc vp ps.length) (h1:PS P q b w1) (lo:Lo P w.heap.size):
  Mth P w w1 ⟨s,cls,ps,[],[]⟩ vp (.slice none 0 0) (.slice none 0 0) q b (w1.alloc (.cells #[.string s,.bool cls,vp,.slice none 0 0,.slice none 0 0] 41)):=by
 have hb:Below w1.heap.size w1 (w1.alloc (.cells #[.string s,.bool cls,vp,.slice none 0 0,.slice none 0 0] 41)):=(zB _ _).alloc (zL _) _;exact ⟨z.step hb,fun o=>(hb.frozen (p:=⟨w.heap.size,o,none⟩) z.1).trans (zf o),zae w1 (Data.zp2 ⟨s,cls,ps,[],[]⟩ vp (.slice none 0 0) (.slice none 0 0)) 41,fun o=>by go_simp,z.1,hs,hp,zh6 _ _,zjx _ _,hf,.inl ⟨rfl,rfl⟩,h1.below hb,(za2.refl P w1).below hb,lo⟩
theorem Mth.go {P:Cst} {w w1 wr w':World} {m:M} {vp vt vb:Value} {q q':Nat} {b b':Bool} (h:Mth P w w1 m vp vt vb q b wr) (ht:za2 P wr w') (hp:PS P q' b' w'):Mth P w w1 m vp vt vb q' b' w':=by have l0:=h.lo.1;have l1:=h.lt;have k:Kept (w1.heap.size+1) wr w':=ht.kept.mono (by omega);exact ⟨Cells.turn h.z ht (by omega),zc0 h.zf h.z.1 ht (by omega),Cells.turn h.c ht (by omega),zc0 h.cf h.c.1 ht (by omega),h.lt,h.sel,h.par,h.tem.keep (zL _) k,h.bod.keep (zL _) k,h.fp,h.ft,hp,h.turn.trans ht,h.lo⟩
theorem Mth.ye8 {P:Cst} {w w1 wr:World} {m:M} {vp vt vb v:Value} {q:Nat} {b:Bool} {ts:List ByteArray} (h:Mth P w w1 m vp vt vb q b wr) (ht:zbv (w1.heap.size+1) wr ts v) (hf:Data.zfc v ts.length):Mth P w w1 { m with temps:=ts } vp v vb q b (wr.setCell ⟨w1.heap.size,3,none⟩ v):=by have hb:=zht (wr:=wr) (B:=w1.heap.size) 3 v;have k:=zci wr ⟨w1.heap.size,3,none⟩ v (Nat.lt_succ_self w1.heap.size);have l1:=h.lt;exact ⟨Data.zb5 h.z _ (by omega),zbg h.zf _,zd1 h.c 3 (.row 0 1 v []) (by simp[Data.zp2]) h.cf,zbg h.cf _,h.lt,h.sel,h.par,ht.keep (zL _) k,h.bod.keep (zL _) k,h.fp,hf,h.ps.low hb (h.lo.le (by omega)),h.turn.low hb,h.lo⟩
theorem Mth.yed {P:Cst} {w w1 wr:World} {m:M} {vp vt vb v:Value} {q:Nat} {b:Bool} {L:List E} (h:Mth P w w1 m vp vt vb q b wr) (hk:zdh (w1.heap.size+1) wr L v):Mth P w w1 { m with body:=L } vp vt v q b (wr.setCell ⟨w1.heap.size,4,none⟩ v):=by have hb:=zht (wr:=wr) (B:=w1.heap.size) 4 v;have k:=zci wr ⟨w1.heap.size,4,none⟩ v (Nat.lt_succ_self w1.heap.size);have l1:=h.lt;exact ⟨Data.zb5 h.z _ (by omega),zbg h.zf _,zd1 h.c 4 (.row 0 5 v []) (by simp[Data.zp2]) h.cf,zbg h.cf _,h.lt,h.sel,h.par,h.tem.keep (zL _) k,hk.keep (zL _) k,h.fp,h.ft,h.ps.low hb (h.lo.le (by omega)),h.turn.low hb,h.lo⟩
theorem zme {w:World} {B lo:Nat} (hB:B<lo) (vs:List Value):∀ (w0:World) (p:Nat),Kept lo w w0->Kept lo w (Data.puts w0 B p vs):=by
 induction vs with
 | nil=>intro w0 p h;exact h
 | cons v vs ih=>intro w0 p h;exact ih _ _ (h.trans (zci _ _ _ hB))
theorem Mth.out {P:Cst} {w w1 wr:World} {m:M} {vp vt vb:Value} {q:Nat} {b:Bool} (h:Mth P w w1 m vp vt vb q b wr) (h0:za2 P w w1) (vs:List Value):
  MAt w.heap.size (Data.puts wr w.heap.size 0 vs) m vp vt vb/\PS P q b (Data.puts wr w.heap.size 0 vs)/\za2 P w (Data.puts wr w.heap.size 0 vs):=by
 have hb:=Data.zbl (zL w.heap.size) vs wr wr 0 (zB _ _);have l0:=h.lo.1;have l1:=h.lt;have k:Kept (w.heap.size+1) wr (Data.puts wr w.heap.size 0 vs):=zme (Nat.lt_succ_self _) vs wr 0 (fun _ _ _ _ h=>h)
 have kt:Kept (w.heap.size+1) w1 wr:=h.turn.kept.mono (by omega);exact ⟨⟨h.sel,h.par.keep (Nat.le_succ _) (kt.trans k),h.tem.keep (by omega) (k.mono (by omega)),h.bod.keep (by omega) (k.mono (by omega)),h.fp,h.ft⟩,h.ps.low hb h.lo,(h0.trans h.turn).low hb⟩
theorem zyg {n:Nat} (hx:XC n) {P:Cst} {p:Nat} {cls:Bool} {w:World} (h:PS P p false w) (hn:P.toks.length<n):
  Calls Tryz.prog 51 #[.pointer (some ⟨P.pb,0,none⟩),.bool cls] w (z9s P w cls (zrv (expr n) cls (rest P p))):=by
 have hb0:Below w.heap.size w (w.alloc (.cells #[.string ⟨#[]⟩,.bool false,.slice none 0 0,.slice none 0 0,.slice none 0 0] 41)):=(zB _ _).alloc (zL _) _;have HZ:=zH (zae w (zou ⟨#[]⟩ (.slice none 0 0)) 41);have HZF:=zH (show ∀ o,(w.alloc (.cells #[.string ⟨#[]⟩,.bool false,.slice none 0 0,.slice none 0 0,.slice none 0 0] 41)).frozen? ⟨w.heap.size,o,none⟩=false from fun o=>by go_simp)
 have KP:=zH (zkx (h.below hb0));have HT0:=zH ((za2.refl P w).below hb0);have HLO:=zH h.lo;generalize hG:zrv (expr n) cls (rest P p)=G;have HG:=zH hG;clear hG h hb0;have hsw:(w.alloc (.cells #[.string ⟨#[]⟩,.bool false,.slice none 0 0,.slice none 0 0,.slice none 0 0] 41)).heap.size=w.heap.size+1:=by simp
 have HSW:=zH hsw;have HX:=zH hx;clear hsw hx;go_enter Tryz.func51,Tryz.ntmps51;go_wp2_with fail
 refine KP.out.mono ?_;rintro e w1 ⟨s,ps,a,c,q1,b1,rfl,hown,hl,hpx,hs,h1,ht1,hg1⟩;rw[HSW.out] at hown;have hpb:=HLO.out.1;have hz1:=Cells.turn HZ.out ht1 (by omega);have hzf1:=zc0 HZF.out HZ.out.1 ht1 (by omega);have HM1:=zH (ybh (cls:=cls) hz1 hzf1 (s:=s) (Nat.le_trans hs (by unfold maxLen;omega)) (zo5 (lo:=w.heap.size+1) hown (by omega) (fun x hx=>Nat.le_trans (hpx x hx) (by unfold maxLen;omega))) (Data.zm6 hown) h1 HLO.out)
 have HT1:=zH (HT0.out.trans ht1);have HG1:=zH hg1;have KM:=zH (zfk HM1.out.ps);have hsz1:(w1.alloc (.cells #[.string s,.bool cls,.slice a ps.length c,.slice none 0 0,.slice none 0 0] 41)).heap.size=w1.heap.size+1:=by simp
 have HSZ1:=zH hsz1;clear hown hl hpx hs h1 ht1 hg1 hz1 hzf1 KP HZ HZF HT0 hsz1;go_wp2_with fail
 refine KM.out.mono ?_;rintro e w2 ⟨vt,ts,q2,b2,rfl,htx,htl,h2,ht2,hn1,hn2⟩;rw[HSZ1.out] at htx;obtain ⟨htx0,tb,tn,tc,rfl,htx1⟩:=id htx;have hM2:=HM1.out.go ht2 h2;have HM2:=zH (hM2.ye8 htx.texts (.inr ⟨tb,tn,tc,rfl⟩));have HN:=zH (zh9 hn1 hn2);have m3:=hM2.c.at 3 (.row 0 1 (.slice none 0 0) []) rfl;have mf:=hM2.cf 3;simp only[val] at m3;have KS:=zH (zvq HX.out HM2.out.ps (fun _=>by rw[zaf];omega))
 clear htx htx0 htx1 htl h2 ht2 hn1 hn2 hM2 HM1 KM HSZ1;go_wp2_with fail
 refine KS.out.mono ?_;rintro e w3 ⟨v4,L,q3,b3,rfl,hk5,h3,ht3,hbb,hgg⟩;have hlt2:=HM2.out.c.1;have hk:=(hk5.mono (Nat.succ_le_of_lt hlt2)).kids;obtain ⟨ka,kc,hk4,-⟩:=id hk;subst hk4;have hM3:=HM2.out.go ht3 h3;have HM3:=zH (hM3.yed hk);have HST:=zH (And.intro hbb hgg);have y4:=hM3.c.at 4 (.row 0 5 (.slice none 0 0) []) rfl;have y0:=hM3.c.at 0 (.str s) rfl;have y1:=hM3.c.at 1 (.bool cls) rfl
 have y2:=hM3.c.at 2 (.row 0 1 (.slice a ps.length c) []) rfl;have y3:=hM3.c.at 3 (.row 0 1 (.slice (some ⟨tb,tn,none⟩) ts.length tc) []) rfl;have yf:=hM3.cf 4;have x0:=hM3.z.at 0 (.str ⟨#[]⟩) rfl;have x1:=hM3.z.at 1 (.bool false) rfl;have x2:=hM3.z.at 2 (.row 0 1 (.slice none 0 0) []) rfl;have x3:=hM3.z.at 3 (.row 0 1 (.slice none 0 0) []) rfl;have x4:=hM3.z.at 4 (.row 0 5 (.slice none 0 0) []) rfl
 have xf:=hM3.zf;have hlw:=hM3.lt;simp only[val] at y0 y1 y2 y3 y4 x0 x1 x2 x3 x4;have HQ:=zH (z8v (cls:=cls) HG1.out HN.out (And.intro hbb hgg));clear hk5 h3 ht3 hbb hgg hk hM3 HM2 KS hlt2 m3 mf;go_wp2_with fail
 have hlen:(zbu L).length=L.length:=by simp[zbu]
 obtain ⟨k1,k2,k3⟩:=HM3.out.out HT1.out [.string s,.bool cls,.slice a ps.length c,.slice (some ⟨tb,tn,none⟩) ts.length tc,.slice ka (zbu L).length kc];refine bodyPost_ret (v:=.agg #[.string s,.bool cls,.slice a ps.length c,.slice (some ⟨tb,tn,none⟩) ts.length tc,.slice ka (zbu L).length kc]) (by simp[results,Tryz.results51,go_sem, *]) rfl ?_;exact ⟨_,_,_,_,q3,b3,rfl,rfl,k1,k2,k3,HG.out.symm.trans HQ.out⟩
end Parser
namespace Data
open Strs Tree
theorem zw0:∀ e,zba (zch e)<=3+3*Tree.weight e:=by
 refine Tree.ind fun k t n ns ks ih=>?_
 have hk:zba (zay ks)<=3*ks.length+3*Tree.weights ks:=by
  clear k t n ns
  induction ks with
  | nil=>simp[zay,zba,Tree.weights]
  | cons e es ih2=>
   have h1:=ih e (by simp);have h2:=ih2 (fun x hx=>ih x (by simp[hx]))
   rw[zay,zaz,Tree.weights,List.length_cons];omega
 rw[zlo,Tree.weight];simp only[zba,cnt,E.kids,E.names];rw[zg7];omega
theorem zs2 (es:List E):zba (zay es)<=3*es.length+3*Tree.weights es:=by
 induction es with
 | nil=>simp[zay,zba,Tree.weights]
 | cons e es ih=>have h1:=zw0 e;rw[zay,zaz,Tree.weights,List.length_cons];omega
theorem zi7 (m:M):zdt (zbc m)<=3*weights (zbc m):=by
 have h:=zs2 m.body
 have hb:weights (zbc m)=m.sel.size+(m.params.length+lens m.params+(m.temps.length+lens m.temps+(m.body.length+Tree.weights m.body))):=by simp only[zbc,weights,weight,zzk];rw[List.length_map,List.length_map,zex,zex,zdg,Nat.mul_div_cancel _ (by decide),zkj,Nat.div_one,Nat.div_one];omega
 rw[hb];simp only[zbc,zdt,zox,zzk];rw[zg7,zg7];omega
theorem zw9 (m:M):zba (zbc m)<=2+3*weights (zbc m):=by have h:=zi7 m;simp only[zbc,zdt,zox] at h;simp only[zbc,zba,cnt] at h ⊢;omega
end Data
namespace SpecParse
open Go.RowKit
open Strs Tree Gram
open Go.Proofs.YtlmhgeanknhcfaaGreatDoor.Parser
open Go.Proofs.YtlmhgeanknhcfaaGreatDoor.Data (Cells zae D val M MAt)
theorem zgm (c:ByteArray) (hc:c.size≠0) (r:R):isB 8 c r=wd c r:=by
 cases r with
 | nil=>rfl
 | cons t r=>simp[isB,wd,hc]
theorem start {s:ByteArray} {w1:World} {ts:List Tok.T} {base:Nat} {ta:Option Addr} {cap:Nat} (hts:Tok.tokens s=some ts) (hown:w1.ownsRow base 94 3 (.slice ta ts.length cap) ts.length (SpecTokens.row ts)):
  PS ⟨w1.heap.size,ta,cap,ts⟩ 0 false (w1.alloc (.cells #[.slice ta ts.length cap,.int .i64 0,.bool false] 58)):=by
 have hroom:=zmb hown;have hba:Below w1.heap.size w1 (w1.alloc (.cells #[.slice ta ts.length cap,.int .i64 0,.bool false] 58)):=(zB _ _).alloc (zL _) _;refine ⟨zwz (s:=s) hts hroom.2.1 hroom.2.2,by simp,Nat.zero_le _,?_,?_,?_,fun o=>?_,fun i t ht=>?_⟩
 ·go_simp
 ·go_simp
 ·go_simp
 ·go_simp
 ·obtain ⟨b,o,e,hlt,d0,d1,d2⟩:=zgh hown i t ht
  exact ⟨b,o,e,by simp only;omega,cell_keep hba d0,cell_keep hba d1,cell_keep hba d2⟩
def zka:M:=⟨⟨#[]⟩,false,[],[],[]⟩
theorem zj4 (lo:Nat) (w:World):MAt lo w zka (.slice none 0 0) (.slice none 0 0) (.slice none 0 0):=⟨Nat.zero_le _,zh6 _ _,zh6 _ _,zjx _ _,.inl ⟨rfl,rfl⟩,.inl ⟨rfl,rfl⟩⟩
end SpecParse
namespace Parser
open Go.RowKit
open Strs Tree Gram
open Go.Proofs.YtlmhgeanknhcfaaGreatDoor.Data (Cells zae D val M C)
def z7c (n p:ByteArray) (vf vm:Value):List D:=[.str n,.str p,.row 0 1 vf [],.row 0 5 vm []]
structure Cls (P:Cst) (w:World) (B:Nat) (n p:ByteArray) (fs:List ByteArray) (vf:Value) (q:Nat) (b:Bool) (wr:World):Prop where
 z:Cells w.heap.size (z7c ⟨#[]⟩ ⟨#[]⟩ (.slice none 0 0) (.slice none 0 0)) wr
 zf:∀ o,wr.frozen? ⟨w.heap.size,o,none⟩=false
 c:Cells B (z7c n p vf (.slice none 0 0)) wr
 cf:∀ o,wr.frozen? ⟨B,o,none⟩=false
 lt:w.heap.size<B
 own:wr.ownsRow (B+1) 9 1 vf fs.length (fs.map Value.string)
 ps:PS P q b wr
 turn:za2 P w wr
 lo:Lo P w.heap.size
theorem yan {P:Cst} {w w1:World} {n:ByteArray} {q:Nat} {b:Bool} (z:Cells w.heap.size (z7c ⟨#[]⟩ ⟨#[]⟩ (.slice none 0 0) (.slice none 0 0)) w1) (zf:∀ o,w1.frozen? ⟨w.heap.size,o,none⟩=false) (h1:PS P q b w1) (ht:za2 P w w1) (lo:Lo P w.heap.size):
  Cls P w w1.heap.size n ⟨#[]⟩ [] (.slice none 0 0) q b (w1.alloc (.cells #[.string n,.string ⟨#[]⟩,.slice none 0 0,.slice none 0 0] 75)):=by
 have hb:Below w1.heap.size w1 (w1.alloc (.cells #[.string n,.string ⟨#[]⟩,.slice none 0 0,.slice none 0 0] 75)):=(zB _ _).alloc (zL _) _;exact ⟨z.step hb,fun o=>(hb.frozen (p:=⟨w.heap.size,o,none⟩) z.1).trans (zf o),zae w1 (z7c n ⟨#[]⟩ (.slice none 0 0) (.slice none 0 0)) 75,fun o=>by go_simp,z.1,⟨by simp,.inl ⟨rfl,rfl⟩⟩,h1.below hb,ht.below hb,lo⟩
theorem Cls.go {P:Cst} {w wr w':World} {B:Nat} {n p:ByteArray} {fs:List ByteArray} {vf:Value} {q q':Nat} {b b':Bool} (h:Cls P w B n p fs vf q b wr) (ht:za2 P wr w') (hp:PS P q' b' w'):Cls P w B n p fs vf q' b' w':=by have l0:=h.lo.1;have l1:=h.lt;exact ⟨Cells.turn h.z ht (by omega),zc0 h.zf h.z.1 ht (by omega),Cells.turn h.c ht (by omega),zc0 h.cf h.c.1 ht (by omega),h.lt,zcg h.own ht (by omega),hp,h.turn.trans ht,h.lo⟩
theorem Cls.drawn {P:Cst} {w wr w':World} {B:Nat} {n p:ByteArray} {fs:List ByteArray} {vf:Value} {q:Nat} {b:Bool} (h:Cls P w B n p fs vf q b wr) (hd:zge wr w'):Cls P w B n p fs vf q b w':=h.go (zdu hd) (h.ps.drawn hd)
theorem Cls.par {P:Cst} {w wr:World} {B:Nat} {n p:ByteArray} {fs:List ByteArray} {vf:Value} {q:Nat} {b:Bool} (h:Cls P w B n p fs vf q b wr) (p':ByteArray):Cls P w B n p' fs vf q b (wr.setCell ⟨B,1,none⟩ (.string p')):=by have l1:=h.lt;have hb:=zht (wr:=wr) (B:=B) 1 (.string p');have hc:=zd1 h.c 1 (.str p') (by simp[z7c]) h.cf;exact ⟨Data.zb5 h.z _ (by omega),zbg h.zf _,hc,zbg h.cf _,h.lt,zft h.own _ _ (by show B<B+1;omega),h.ps.low hb (h.lo.le (by omega)),h.turn.low (hb.mono (by omega)),h.lo⟩
theorem Cls.fld {P:Cst} {w wr w1:World} {B:Nat} {n p:ByteArray} {fs ys:List ByteArray} {vf v':Value} {q:Nat} {b:Bool} (h:Cls P w B n p fs vf q b wr) (hb1:Below (B+1) wr w1) (ho:w1.ownsRow (B+1) 9 1 v' ys.length (ys.map Value.string)):Cls P w B n p ys v' q b (w1.setCell ⟨B,2,none⟩ v'):=by
 have l1:=h.lt;have hb:=zht (wr:=w1) (B:=B) 2 v';have hc1:=Data.zbs h.c hb1 (by omega);have hf1:=Data.zb3 h.cf hb1 (by omega);have hc:=zd1 hc1 2 (.row 0 1 v' []) (by simp[z7c]) hf1;have hbb:=(hb1.mono (Nat.le_succ _)).trans hb;exact ⟨Data.zb5 (Data.zbs h.z hb1 (by omega)) _ (by omega),zbg (Data.zb3 h.zf hb1 (by omega)) _,hc,zbg hf1 _,h.lt,zft ho _ _ (by show B<B+1;omega),h.ps.low hbb (h.lo.le (by omega)),h.turn.low (hbb.mono (by omega)),h.lo⟩
def zxb (r:R):Bool:=hd 1 r&&(wd ze6 r.tail&&hd 1 r.tail.tail)
theorem z7d {P:Cst} {p q1 q2 q3:Nat} {n x e:ByteArray} {b1 b2 b3:Bool} (h1:(b1=false->isB 1 ⟨#[]⟩ (rest P p)=true/\q1=p+1/\n=txt (rest P p))/\(b1=true->isB 1 ⟨#[]⟩ (rest P p)=false))
  (h2:(b2=false->b1=false/\isB 8 ⟨#[101,120,116,101,110,100,115]⟩ (rest P q1)=true/\q2=q1+1/\e=txt (rest P q1))/\(b2=true->b1=true\/isB 8 ⟨#[101,120,116,101,110,100,115]⟩ (rest P q1)=false))
  (h3:(b3=false->b2=false/\isB 1 ⟨#[]⟩ (rest P q2)=true/\q3=q2+1/\x=txt (rest P q2))/\(b3=true->b2=true\/isB 1 ⟨#[]⟩ (rest P q2)=false)):
  zxb (rest P p)=!b3/\(b3=false->q3=p+3/\n=txt (rest P p)/\x=txt (rest P p).tail.tail):=by
 unfold zxb;rw[zab,zab];cases b1 with
 | true=>
  have e2:b2=true:=by
   cases b2 with
   | true=>rfl
   | false=>exact absurd (h2.1 rfl).1 (by simp)
  have e3:b3=true:=by
   cases b3 with
   | true=>rfl
   | false=>rw[e2] at h3;exact absurd (h3.1 rfl).1 (by simp)
  have h:=h1.2 rfl;rw[zbw] at h;rw[h,e3];exact ⟨rfl,fun e=>by cases e⟩
 | false=>
  obtain ⟨a1,rfl,rfl⟩:=h1.1 rfl;rw[zbw] at a1;rw[a1];cases b2 with
  | true=>
   have e3:b3=true:=by
    cases b3 with
    | true=>rfl
    | false=>exact absurd (h3.1 rfl).1 (by simp)
   rcases h2.2 rfl with h|h
   ·cases h
   ·rw[show wd ze6 (rest P (p+1))=false from (SpecParse.zgm ze6 (by decide) _).symm.trans h,e3]
    exact ⟨rfl,fun e=>by cases e⟩
  | false=>
   obtain ⟨-,a2,rfl,rfl⟩:=h2.1 rfl;rw[show wd ze6 (rest P (p+1))=true from (SpecParse.zgm ze6 (by decide) _).symm.trans a2]
   cases b3 with
   | true=>
    rcases h3.2 rfl with h|h
    ·cases h
    ·rw[zbw] at h
     rw[h];exact ⟨rfl,fun e=>by cases e⟩
   | false=>obtain ⟨-,a3,rfl,rfl⟩:=h3.1 rfl;rw[zbw] at a3;rw[a3];exact ⟨rfl,fun _=>⟨rfl,rfl,rfl⟩⟩
end Parser
namespace Parser
open Go.RowKit
open Strs Tree Gram
open Go.Proofs.YtlmhgeanknhcfaaGreatDoor.Data (Cells zae D val M C MAt znz)
theorem yc8:(Tryz.prog.info? 41).map (fun i=>(i.zero,i.size,i.bytes))=some (some (.agg #[.string ByteArray.empty,.bool false,.slice none 0 0,.slice none 0 0,.slice none 0 0]),5,96):=by kernel_rfl
structure Mts (P:Cst) (w:World) (B Bm:Nat) (n p:ByteArray) (fs:List ByteArray) (vf:Value) (Ls:List (List D)) (vm:Value) (q:Nat) (b:Bool) (wr:World):Prop where
 z:Cells w.heap.size (z7c ⟨#[]⟩ ⟨#[]⟩ (.slice none 0 0) (.slice none 0 0)) wr
 zf:∀ o,wr.frozen? ⟨w.heap.size,o,none⟩=false
 c:Cells B (z7c n p vf vm) wr
 cf:∀ o,wr.frozen? ⟨B,o,none⟩=false
 lt:w.heap.size<B
 ltm:B<Bm
 tf:zbv (B+1) wr fs vf
 ff:Data.zfc vf fs.length
 tlt:∀ b o k c,vf=.slice (some ⟨b,o,none⟩) k c->b<Bm
 out:znz Bm 41 5 wr Ls vm
 ps:PS P q b wr
 turn:za2 P w wr
 lo:Lo P w.heap.size
 sz:Bm<=wr.heap.size
theorem ydm {w:World} {base:Nat} {e:TypeId} {size:Nat} {v:Value} {m:Nat} {xs:List Value} (h:w.ownsRow base e size v m xs) {b o k c:Nat} (hv:v=.slice (some ⟨b,o,none⟩) k c):b<w.heap.size:=by
 have h':=h;subst hv;obtain ⟨_,⟨hn,_⟩|⟨g,cap,cur,hv,hbg,hg,_⟩⟩:=h
 ·cases hn
 ·cases hv
  exact (h'.lt _ rfl).2
theorem z2z {w w':World} {lo hi:Nat} {xs:List ByteArray} {v:Value} (h:zbv lo w xs v) (hl:∀ b o k c,v=.slice (some ⟨b,o,none⟩) k c->b<hi) (hb:Below hi w w'):zbv lo w' xs v:=by
 obtain ⟨a,c,rfl,hm,hx,hc⟩:=h;refine ⟨a,c,rfl,hm,hx,fun h0=>?_⟩
 obtain ⟨b,o,rfl,h1,h2⟩:=hc h0;exact ⟨b,o,rfl,h1,fun j hj=>(hb.cell (p:=⟨b,o+j,none⟩) (hl b o _ _ rfl)).trans (h2 j hj)⟩
theorem Cls.mts {P:Cst} {w wr:World} {B:Nat} {n p:ByteArray} {fs:List ByteArray} {vf:Value} {q:Nat} {b:Bool} (h:Cls P w B n p fs vf q b wr) (hs:∀ x,x∈fs->x.size<=maxLen):Mts P w B wr.heap.size n p fs vf [] (.slice none 0 0) q b wr:=
 ⟨h.z,h.zf,h.c,h.cf,h.lt,h.c.1,zo5 h.own (zL _) hs,Data.zm6 h.own,(fun _ _ _ _ e=>ydm h.own e),znz.nil,h.ps,h.turn,h.lo,zL _⟩
theorem Mts.go {P:Cst} {w wr w':World} {B Bm:Nat} {n p:ByteArray} {fs:List ByteArray} {vf:Value} {Ls:List (List D)} {vm:Value} {q q':Nat} {b b':Bool} (h:Mts P w B Bm n p fs vf Ls vm q b wr) (ht:za2 P wr w') (hp:PS P q' b' w'):Mts P w B Bm n p fs vf Ls vm q' b' w':=by have l0:=h.lo.1;have l1:=h.lt;have l2:=h.ltm;exact ⟨Cells.turn h.z ht (by omega),zc0 h.zf h.z.1 ht (by omega),Cells.turn h.c ht (by omega),zc0 h.cf h.c.1 ht (by omega),h.lt,h.ltm,h.tf.keep (zL _) (ht.kept.mono (by omega)),h.ff,h.tlt,h.out.turn ht (by omega),hp,h.turn.trans ht,h.lo,Nat.le_trans h.sz ht.size⟩
theorem Mts.drawn {P:Cst} {w wr w':World} {B Bm:Nat} {n p:ByteArray} {fs:List ByteArray} {vf:Value} {Ls:List (List D)} {vm:Value} {q:Nat} {b:Bool} (h:Mts P w B Bm n p fs vf Ls vm q b wr) (hd:zge wr w'):Mts P w B Bm n p fs vf Ls vm q b w':=h.go (zdu hd) (h.ps.drawn hd)
theorem Mts.app {P:Cst} {w wr w1:World} {B Bm:Nat} {n p:ByteArray} {fs:List ByteArray} {vf:Value} {Ls Ls':List (List D)} {vm v':Value} {q:Nat} {b:Bool} (h:Mts P w B Bm n p fs vf Ls vm q b wr) (hb1:Below Bm wr w1) (ho:znz Bm 41 5 w1 Ls' v'):Mts P w B Bm n p fs vf Ls' v' q b (w1.setCell ⟨B,3,none⟩ v'):=by
 have l1:=h.lt;have l2:=h.ltm;have hb:=zht (wr:=w1) (B:=B) 3 v';have hc1:=Data.zbs h.c hb1 (by omega);have hf1:=Data.zb3 h.cf hb1 (by omega);have hc:=zd1 hc1 3 (.row 0 5 v' []) (by simp[z7c]) hf1;have hbb:=(hb1.mono (Nat.le_of_lt l2)).trans hb;exact ⟨Data.zb5 (Data.zbs h.z hb1 (by omega)) _ (by omega),zbg (Data.zb3 h.zf hb1 (by omega)) _,hc,zbg hf1 _,h.lt,h.ltm,(z2z h.tf h.tlt hb1).keep (zL _) (zci _ _ _ (Nat.lt_succ_self _)),h.ff,h.tlt,ho.set _ _ (by show B<Bm;omega),h.ps.low hbb (h.lo.le (by omega)),h.turn.low (hbb.mono (by omega)),h.lo,Nat.le_trans h.sz hbb.size⟩
theorem zsa {lo:Nat} {w:World} {m:M} {v2 v3 v4:Value} (h:MAt lo w m v2 v3 v4):∃ x:List D,x.length=5/\Data.vals x=[.string m.sel,.bool m.cls,v2,v3,v4]/\Data.zaa x=Data.zbc m/\Data.zat lo w x/\Data.zds x:=by
 obtain ⟨d4,e4,h4⟩:=Data.zqy h.body 0;refine ⟨[.str m.sel,.bool m.cls,.row 0 1 v2 (Data.strs m.params),.row 0 1 v3 (Data.strs m.temps),.row 0 5 v4 d4],rfl,rfl,?_,?_,?_⟩
 ·simp only[Data.zaa,Data.erase,Data.zbc,Data.zzk,Data.zb0,e4]
 ·simp only[Data.zat,and_true]
  exact ⟨by simpa only[Data.Holds] using h.sel,by simp only[Data.Holds],Data.zeu h.params 0,Data.zeu h.temps 0,h4⟩
 ·have hk:(∃ n ds',d4=.int n::ds')\/Data.zds d4:=by
   cases d4 with
   | nil=>exact .inr (by simp[Data.zds])
   | cons d ds=>
    rw[Data.zha] at e4;cases hb:m.body with
    | nil=>rw[hb,Data.zay] at e4;cases e4
    | cons e es=>
     rw[hb,Data.zay,Data.zlo] at e4;cases d with
     | int n=>exact .inl ⟨n,ds,rfl⟩
     | str s=>rw[Data.erase] at e4;cases e4
     | bool s=>rw[Data.erase] at e4;cases e4
     | row t k v x=>rw[Data.erase] at e4;cases e4
  have hn:∀ xs:List ByteArray,Data.zds (Data.strs xs):=fun xs=>Data.zgz.2 fun d hd=>by obtain ⟨x,-,rfl⟩:=List.mem_map.1 hd;simp[Data.zzq]
  simp only[Data.zds,Data.zzq,Data.zeb,and_true,true_and];exact ⟨⟨fun _=>h.fparams,.inr (hn _)⟩,⟨fun _=>h.ftemps,.inr (hn _)⟩,⟨fun e=>absurd e (by decide),hk⟩⟩
theorem zjl (ms:List M) (m:M):Data.za8 (ms++[m])=Data.za8 ms++Data.zbc m:=by
 induction ms with
 | nil=>simp[Data.za8]
 | cons x xs ih=>rw[List.cons_append,Data.za8,Data.za8,ih,List.append_assoc]
theorem z1y {ex:X} {P:Cst} {q:Nat} (h:wd zb7 (rest P q)=true):Gram.method ex (rest P q)=zrv ex true (rest P (q+1)):=by unfold Gram.method;rw[h,if_pos rfl,zab]
theorem zw8 {ex:X} {P:Cst} {q q':Nat} {b:Bool} {x:ByteArray} (h:wd zb7 (rest P q)=false)
  (hn:b=false->false=false/\isB 8 ⟨#[109,101,116,104,111,100]⟩ (rest P q)=true/\q'=q+1/\x=txt (rest P q)) (hy:b=true->false=true\/isB 8 ⟨#[109,101,116,104,111,100]⟩ (rest P q)=false):
  (b=false->Gram.method ex (rest P q)=zrv ex false (rest P q'))/\(b=true->Gram.method ex (rest P q)=none):=by
 unfold Gram.method;rw[h];refine ⟨fun e=>?_,fun e=>?_⟩
 ·obtain ⟨-,h1,rfl,-⟩:=hn e
  rw[show wd zfs (rest P q)=true from (SpecParse.zgm zfs (by decide) _).symm.trans h1,zab]
  rfl
 ·rcases hy e with h1|h1
  ·cases h1
  ·rw[show wd zfs (rest P q)=false from (SpecParse.zgm zfs (by decide) _).symm.trans h1]
   rfl
theorem zs8 {P:Cst} {ex:X} {p q3 q4 q:Nat} {n x:ByteArray} {fs:List ByteArray} {ms:List M} {b3 b:Bool} (h:zxb (rest P p)=!b3/\(b3=false->q3=p+3/\n=txt (rest P p)/\x=txt (rest P p).tail.tail)) (hf:fields (rest P q3)=(fs,rest P q4))
  (hb:b3=true->b=true) (hm:b3=false->zce ex [] (rest P q4)=Got b (ms,rest P q)):zdj ex (rest P p)=Got b (⟨n,x,fs,ms⟩,rest P q):=by
 unfold zdj;rw[show (hd 1 (rest P p)&&(wd ze6 (rest P p).tail&&hd 1 (rest P p).tail.tail))=!b3 from h.1]
 cases b3 with
 | true=>rw[hb rfl];rfl
 | false=>
  obtain ⟨rfl,rfl,rfl⟩:=h.2 rfl;rw[show (rest P p).tail.tail.tail=rest P (p+3) by rw[zab,zab,zab],hf]
  simp only[Bool.not_false,if_true];rw[hm rfl];cases b<;>rfl
def zu6 (P:Cst) (w:World) (g:Option (C×R)) (e:Ending) (w':World):Prop:=
 ∃ es c q b,e=.returned (Data.agg es)/\Data.zaa es=Data.zcx c/\es.length=4/\Data.zat w.heap.size w' es/\Data.zds es/\PS P q b w'/\za2 P w w'/\g=Got b (c,rest P q)
theorem Mts.back {P:Cst} {w wr:World} {B Bm:Nat} {n p:ByteArray} {fs:List ByteArray} {vf:Value} {Ls:List (List D)} {vm:Value} {q:Nat} {b:Bool} {ms:List M} {g:Option (C×R)} (h:Mts P w B Bm n p fs vf Ls vm q b wr) (hn:n.size<=maxLen) (hp:p.size<=maxLen) (he:Data.zaa Ls.flatten=Data.za8 ms) (hs:Data.zds Ls.flatten) (hg:g=Got b (⟨n,p,fs,ms⟩,rest P q)):
  zu6 P w g (.returned (.agg #[.string n,.string p,vf,vm])) (Data.puts wr w.heap.size 0 [.string n,.string p,vf,vm]):=by
 have hb:=Data.zbl (zL w.heap.size) [.string n,.string p,vf,vm] wr wr 0 (zB _ _);have l1:=h.lt;have l2:=h.ltm;have k:Kept (w.heap.size+1) wr (Data.puts wr w.heap.size 0 [.string n,.string p,vf,vm]):=zme (Nat.lt_succ_self _) _ wr 0 (fun _ _ _ _ h=>h)
 refine ⟨[.str n,.str p,.row 0 1 vf (Data.strs fs),.row 0 5 vm Ls.flatten],⟨n,p,fs,ms⟩,q,b,rfl,?_,rfl,?_,?_,h.ps.low hb h.lo,h.turn.low hb,hg⟩
 ·simp only[Data.zaa,Data.erase,Data.zcx,Data.zzk,Data.zb0,he]
 ·simp only[Data.zat,and_true]
  exact ⟨by simpa only[Data.Holds] using hn,by simpa only[Data.Holds] using hp,Data.zeu (h.tf.keep (by omega) (k.mono (by omega))) 0,Data.Holds.keep (by omega) (k.mono (by omega)) _ (h.out.holds (by decide) 0)⟩
 ·have hx:Data.zds (Data.strs fs):=Data.zgz.2 fun d hd=>by
   obtain ⟨x,-,rfl⟩:=List.mem_map.1 hd;simp[Data.zzq]
  simp only[Data.zds,Data.zzq,Data.zeb,and_true,true_and];exact ⟨⟨fun _=>h.ff,.inr hx⟩,⟨fun e=>absurd e (by decide),.inr hs⟩⟩
end Parser
end Go.Proofs.YtlmhgeanknhcfaaGreatDoor
