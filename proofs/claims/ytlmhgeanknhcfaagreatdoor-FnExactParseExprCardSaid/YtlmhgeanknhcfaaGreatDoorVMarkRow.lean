/-
  MarkRow
-/
import Derived.Test.YtlmhgeanknhcfaaGreatDoorB16
import Derived.Test.YtlmhgeanknhcfaaGreatDoorB22
import Derived.Test.YtlmhgeanknhcfaaGreatDoorVXtParseExpr
namespace Go.Proofs.YtlmhgeanknhcfaaGreatDoor.Placed
set_option maxHeartbeats 1000000
open Go.RowKit
open Strs Tree
structure Exc (F:List Nat) (w w':World):Prop where
 os:w'.os=w.os
 tape:w'.tape=w.tape
 output:w'.output=w.output
 size:w.heap.size<=w'.heap.size
 block:∀ b,b<w.heap.size->b∉F->w'.heap[b]?=w.heap[b]?
theorem Exc.refl (F:List Nat) (w:World):Exc F w w:=⟨rfl,rfl,rfl,zL _,fun _ _ _=>rfl⟩
theorem Exc.trans {F:List Nat} {a b c:World} (h:Exc F a b) (k:Exc F b c):Exc F a c:=
 ⟨k.os.trans h.os,k.tape.trans h.tape,k.output.trans h.output,Nat.le_trans h.size k.size,fun x hx hf=>(k.block x (Nat.lt_of_lt_of_le hx h.size) hf).trans (h.block x hx hf)⟩
theorem Exc.mono {F F':List Nat} {a b:World} (h:Exc F a b) (hs:∀ x,x∈F->x∈F'):Exc F' a b:=
 ⟨h.os,h.tape,h.output,h.size,fun x hx hf=>h.block x hx fun e=>hf (hs x e)⟩
theorem Exc.below {F:List Nat} {a b c:World} (h:Exc F a b) (k:Below b.heap.size b c):Exc F a c:=
 h.trans ⟨k.os,k.tape,k.output,k.size,fun x hx _=>k.block x hx⟩
theorem Exc.set {F:List Nat} {a b:World} (h:Exc F a b) {g o:Nat} (v:Value) (hg:g∈F):Exc F a (b.setCell ⟨g,o,none⟩ v):=
 h.trans ⟨rfl,rfl,rfl,by simp[World.setCell],fun x _ hf=>Below.heap_setCell _ _ _ _ (fun e=>hf (by show x∈F;rw[show x=g from e];exact hg))⟩
theorem Exc.low {F:List Nat} {a b:World} {B:Nat} (h:Exc F a b) (hB:B<=a.heap.size) (hF:∀ x,x∈F->B<=x):Below B a b:=
 ⟨h.os,h.tape,h.output,h.size,fun x hx=>h.block x (by omega) fun e=>by have:=hF x e;omega⟩
theorem Exc.own {F:List Nat} {a b:World} {base:Nat} {e:TypeId} {size:Nat} {v:Value} {n:Nat} {xs:List Value} (h:Exc F a b) (ho:a.ownsRow base e size v n xs) (hd:∀ x,x∈blk v->x∉F):b.ownsRow base e size v n xs:=
 zd0 ho fun x hx=>h.block x (zdb ho x hx).2 (hd x hx)
theorem Exc.ycy {F:List Nat} {a b:World} {ts:List T} (h:Exc F a b) (ho:zb2 a ts) (hd:∀ x,x∈zah ts->x∉F):zb2 b ts:=
 ho.frame fun x hx=>h.block x (ho.lt x hx) (hd x hx)
theorem z6i (g cap n base k:Nat) (K:Int) (xs:List ByteArray) (w:World) (hn:xs.length=n) (hK:K=k) (hk:0<k) (hkn:k+n<=4611686018427387904)
  (hown:w.ownsRow base 9 1 (.slice (some ⟨g,0,none⟩) n cap) n (xs.map Value.string)):
  Calls Tryz.prog 35 #[.slice (some ⟨g,0,none⟩) n cap,.int .i64 K] w fun e w'=>e=.returned (.int .i64 ((k+n:Nat):Int))/\w'.ownsRow base 9 1 (.slice (some ⟨g,0,none⟩) n cap) n ((marks k n).map Value.string)/\Exc [g] w w':=by
 obtain ⟨hbg,hgl⟩:=hown.lt g rfl;subst hK;have HN:=zH hn;clear hn;go_enter Tryz.func35,Tryz.ntmps35;go_wp2_with fail
 go_loopw [1,5] (fun q j wr=>∃ i:Nat,i<=n/\j=.int .i64 i/\q=.int .i64 ((k+i:Nat):Int)/\wr.ownsRow base 9 1 (.slice (some ⟨g,0,none⟩) n cap) n ((marks k i++xs.drop i).map Value.string)/\Exc [g] w wr) (fun _ j _=>n-(intOf j).toNat)
 case atStart=>exact ⟨0,by omega,rfl,rfl,by simpa [marks] using hown,Exc.refl _ _⟩
 case round=>
  obtain ⟨i,hi,rfl,rfl,ho,hbw⟩:=hrel;by_cases hlt:i<n
  ·have HO:=zH ho;clear ho
   have hpos:(0:Int)<((k+i:Nat):Int):=by omega
   have hsm:((k+i:Nat):Int)<=4611686018427387904:=by omega
   generalize hq:k+i=q at *;have HQ:=zH hq;clear hq;go_wp2_with fail
   refine (Mark.zcv (q:Int) wr hpos (by omega)).mono ?_;rintro e w1 ⟨rfl,hb1⟩;have HO1:=zH (own_keep HO.out hb1);have hlen:(marks k i++xs.drop i).length=n:=by have:=HN.out;have:=zdd k i;simp;omega
   have hcell:∃ v,w1.cell? ⟨g,i,none⟩=some v:=by rw[HO1.out.cellAt _ (by omega)];exact ⟨_,List.getElem?_eq_getElem (by rw[List.length_map,hlen];exact hlt)⟩
   obtain ⟨v,hcell⟩:=hcell;have hfr:w1.frozen? ⟨g,i,none⟩=false:=HO1.out.frozenAt _;have HB:Hid (Exc [g] w w1):=hbw.below hb1;have HM:Hid ((marks k i++xs.drop i).set i (Mark.mark (q:Int))=marks k (i+1)++xs.drop (i+1)):=by rw[<-HQ.out];exact zvg k i xs (by rw[HN.out];exact hlt)
   clear hlen hb1 HO hbw;generalize Mark.mark (q:Int)=mk at *;go_wp2_with fail
   go_roundw
   case rel=>have HO2:=(HO1.out.stored i (.string mk)).1;rw[<-List.map_set,HM.out] at HO2;exact ⟨i+1,by omega,by go_num,by rw[<-Nat.add_assoc,HQ.out];go_num,HO2,HB.out.set _ (by simp)⟩
   case measure=>simp[intOf];omega
  ·have hin:i=n:=by omega
   subst hin;go_wp2_with fail
   go_ret;exact ⟨rfl,by rw[List.drop_of_length_le (by rw[HN.out];exact zL _),List.append_nil] at ho;exact ho,hbw⟩
theorem zpt (a:Option Addr) (c:Nat) (K:Int) (w:World):
  Calls Tryz.prog 35 #[.slice a 0 c,.int .i64 K] w fun e w'=>e=.returned (.int .i64 K)/\Below w.heap.size w w':=by
 go_enter Tryz.func35,Tryz.ntmps35;go_wp2_with fail
 refine wp_loop_rounds 1 ?_;rw[rounds_succ];go_wp2_with fail
 go_ret;exact ⟨rfl,zB _ _⟩
theorem zo4 (a:Option Addr) (c:Nat) (K:Int) (w:World):
  Calls Tryz.prog 37 #[.slice a 0 c,.int .i64 K] w fun e w'=>e=.returned (.int .i64 K)/\Below w.heap.size w w':=by
 go_enter Tryz.func37,Tryz.ntmps37;go_wp2_with fail
 refine wp_loop_rounds 1 ?_;rw[rounds_succ];go_wp2_with fail
 go_ret;exact ⟨rfl,zB _ _⟩
theorem zjm {base k:Nat} {xs:List ByteArray} {v:Value} {w:World} (hown:w.ownsRow base 9 1 v xs.length (xs.map Value.string)) (hk:0<k) (hkn:k+xs.length<=4611686018427387904):
  Calls Tryz.prog 35 #[v,.int .i64 (k:Int)] w fun e w'=>e=.returned (.int .i64 ((k+xs.length:Nat):Int))/\w'.ownsRow base 9 1 v xs.length ((marks k xs.length).map Value.string)/\Exc (blk v) w w':=by
 have hown':=hown;obtain ⟨-,⟨rfl,hn⟩|⟨g,cap,cur,rfl,-⟩⟩:=hown
 ·refine (zpt none 0 k w).mono ?_
  rintro e w' ⟨rfl,hb⟩;refine ⟨by rw[hn];rfl,?_,(Exc.refl _ _).below hb⟩
  rw[hn];exact zg0 _ _ _
 ·refine (z6i g cap xs.length base k k xs w rfl rfl hk hkn hown').mono ?_
  rintro e w' ⟨h1,h2,h3⟩;exact ⟨h1,h2,h3.mono fun x hx=>by simpa [blk,Value.ownBlock] using hx⟩
theorem zj3 {base k n:Nat} {v:Value} {w:World} (hown:w.ownsRow base 9 1 v n ((marks k n).map Value.string)) (hk:0<k) (hkn:k+n<=4611686018427387904):
  Calls Tryz.prog 37 #[v,.int .i64 (k:Int)] w fun e w'=>e=.returned (.int .i64 ((k+n:Nat):Int))/\Below w.heap.size w w':=by
 have hown':=hown;obtain ⟨-,⟨rfl,hn⟩|⟨g,cap,cur,rfl,-⟩⟩:=hown
 ·rw[hn]
  exact zo4 none 0 k w
 ·refine zy8 g 0 cap n k k w rfl hk hkn fun j hj=>?_
  rw[Nat.zero_add,hown'.cellAt j (by omega),<-zzi k n j hj];have hl:=zdd k n;simp[List.getD,hl,hj]
end Go.Proofs.YtlmhgeanknhcfaaGreatDoor.Placed
