/-
  DataMark MkExpr MkMethod HdExpr HdMethod
-/
import Derived.Test.YtlmhgeanknhcfaaGreatDoorB0
import Derived.DataShut
set_option maxHeartbeats 8000000
set_option maxRecDepth 10000
namespace Go.Proofs.YtlmhgeanknhcfaaGreatDoor
namespace Data
open Go.RowKit
open Strs
theorem zyy (n:Nat) (h:n<=4611686018427387904):(Lit.int .i64 (n:Nat)).wf=true:=by
 have e1:IntKind.min .i64 = -9223372036854775808:=by decide
 have e2:IntKind.max .i64=9223372036854775807:=by decide
 rw[Lit.wf_int_iff,e1,e2];omega
theorem ze3 (n:Int):(Mark.mark n).size<=maxLen:=by
 have h:=Num.zr7 n.natAbs
 have e:(Mark.mark n).size=(Num.zxx n.natAbs).length+1:=by
  show ((109::Num.zxx n.natAbs).toArray).size=_
  simp
 rw[e];unfold maxLen;omega
theorem ziq (k n:Nat):∀ x,x∈marks k n->x.size<=maxLen:=by
 induction n with
 | zero=>intro x hx;cases hx
 | succ n ih=>
  intro x hx;rw[marks] at hx;rcases List.mem_append.1 hx with h|h
  ·exact ih x h
  ·rw[List.mem_singleton.1 h]
   exact ze3 _
theorem zjg {base:Nat} {w w':World} {A B:List D} {d:D} (d':D) {F:List Nat} (h:Own base w (A++d::B)) (hg:Own base w' [d']) (hf:foot d'=foot d) (hx:Exc F w w') (hF:∀ b,b∈F->b∈foot d):Own base w' (A++d'::B):=by
 have hA:=h.left;have hdB:=h.right;have hB:Own base w B:=Own.right (a:=[d]) hdB;have a1:=h.apart;have a2:=Own.apart (a:=[d]) (b:=B) hdB;have e1:zah [d]=foot d:=by rw[zah,zah,List.append_nil]
 have e2:zah [d']=foot d':=by rw[zah,zah,List.append_nil]
 rw[e1] at a2;have kA:=hx.keeps hA fun x hx1 hx2=>a1 x hx1 (by rw[ze1];simp[hF x hx2])
 have kB:=hx.keeps hB fun x hx1 hx2=>a2 x (hF x hx2) hx1
 refine kA.append (Own.append (a:=[d']) hg kB fun x hx1 hx2=>?_) fun x hx1 hx2=>?_
 ·rw[e2,hf] at hx1
  exact a2 x hx1 hx2
 ·have:zah (d'::B)=zah (d::B):=by rw[ze1,hf,ze1]
  rw[this] at hx2;exact a1 x hx1 hx2
theorem Cells.exc {B:Nat} {ds:List D} {F:List Nat} {a b:World} (h:Cells B ds a) (hx:Exc F a b) (hn:B∉F):Cells B ds b:=
 ⟨Nat.lt_of_lt_of_le h.1 hx.size,fun j hj=>(World.cell?_of_block (a:=⟨B,j,none⟩) (hx.block B h.1 hn)).trans (h.2 j hj)⟩
theorem zrj {base:Nat} {w w':World} {A X Y B:List D} {F:List Nat} (h:Own base w (A++(X++B))) (hg:Own base w' Y) (hf:zah Y=zah X) (hx:Exc F w w') (hF:∀ b,b∈F->b∈zah X):Own base w' (A++(Y++B)):=by
 have hA:=h.left;have hB:=h.right.right;have a1:=h.apart;have a2:=h.right.apart;have kA:=hx.keeps hA fun x hx1 hx2=>a1 x hx1 (by rw[zan];simp[hF x hx2])
 have kB:=hx.keeps hB fun x hx1 hx2=>a2 x (hF x hx2) hx1
 refine kA.append (hg.append kB fun x hx1 hx2=>?_) fun x hx1 hx2=>?_
 ·rw[hf] at hx1
  exact a2 x hx1 hx2
 ·rw[zan,hf,<-zan] at hx2
  exact a1 x hx1 hx2
theorem zgo {base:Nat} {w:World} {A B:List D} {d:D} (h:Own base w (A++d::B)):Own base w [d]:=Own.left (a:=[d]) (b:=B) h.right
theorem z4g {w:World} {base:Nat} {e:TypeId} {size:Nat} {v:Value} {n:Nat} {xs:List Value} (h:w.ownsRow base e size v n xs):(v=.slice none 0 0/\n=0)\/∃ g c,v=.slice (some ⟨g,0,none⟩) n c:=by
 obtain ⟨_,⟨rfl,hn⟩|⟨g,cap,cur,rfl,_⟩⟩:=h
 ·exact .inl ⟨rfl,hn⟩
 ·exact .inr ⟨g,cap,rfl⟩
theorem zed {base:Nat} {w:World} {A B:List D} {d:D} (d':D) {t k g c n m:Nat} (h:Row base w t k (.slice (some ⟨g,0,none⟩) n c) (A++d::B)) (hm:A.length=m) (hd:foot d=[]) (hd':foot d'=[]) (hg:Good w d'):
  Row base (w.setCell ⟨g,m,none⟩ (val d')) t k (.slice (some ⟨g,0,none⟩) n c) (A++d'::B):=by
 subst hm;obtain ⟨⟨n',h0,h1,h2⟩,h3,h4⟩:=h;have hbl:blk (.slice (some ⟨g,0,none⟩) n c)=[g]:=rfl;have hfe:zah (A++d'::B)=zah (A++d::B):=by rw[zan,zan,ze1,ze1,hd,hd']
 have hne:∀ b,b∈zah (A++d::B)->b≠g:=fun b hb e=>h4 g (by rw[hbl];simp) (e▸hb)
 have hfr:∀ b,b≠g->(w.setCell ⟨g,A.length,none⟩ (val d')).heap[b]?=w.heap[b]?:=fun b hb=>Below.heap_setCell _ _ _ _ (fun e=>hb e)
 have hn':n'=n:=by
  obtain ⟨-,⟨hv,-⟩|⟨g',cap,cur,hv,-⟩⟩:=h2
  ·cases hv
  ·cases hv;rfl
 subst hn';refine ⟨⟨n',h0,by rw[<-h1];simp,?_⟩,⟨?_,by rw[hfe];exact h3.nd,by rw[hfe];exact h3.lo⟩,fun b hb=>by rw[hfe];exact h4 b hb⟩
 ·have h5:=(h2.stored A.length (val d')).1
  have e:(vals (A++d::B)).set A.length (val d')=vals (A++d'::B):=by
   rw[zeh,zeh];show (vals A++val d::vals B).set A.length (val d')=vals A++val d'::vals B
   rw[List.set_append_right _ _ (by rw[zfj];exact zL _),zfj,Nat.sub_self];rfl
  rw[e] at h5;exact h5
 ·have hgo:=h3.good
  rw[zam] at hgo ⊢;intro x hx;rcases List.mem_append.1 hx with hx|hx
  ·exact Good.frame x (hgo x (by simp[hx])) fun b hb=>hfr b (hne b (zda (by simp[hx]) b hb))
  rcases List.mem_cons.1 hx with rfl|hx
  ·exact Good.frame x hg fun b hb=>by rw[hd'] at hb;cases hb
  ·exact Good.frame x (hgo x (by simp[hx])) fun b hb=>hfr b (hne b (zda (by simp[hx]) b hb))
theorem zer {base:Nat} {w w':World} {A B:List D} {d:D} (d':D) {t k:Nat} {v:Value} {F:List Nat} (h:Row base w t k v (A++d::B)) (hv:val d'=val d) (hf:foot d'=foot d) (hg:Own base w' [d']) (hx:Exc F w w') (hF:∀ b,b∈F->b∈foot d):Row base w' t k v (A++d'::B):=by
 obtain ⟨⟨n,h0,h1,h2⟩,h3,h4⟩:=h;have hfe:zah (A++d'::B)=zah (A++d::B):=by rw[zan,zan,ze1,ze1,hf]
 refine ⟨⟨n,h0,by rw[<-h1];simp,?_⟩,zjg d' h3 hg hf hx hF,fun b hb=>by rw[hfe];exact h4 b hb⟩
 have e:vals (A++d'::B)=vals (A++d::B):=by
  rw[zeh,zeh];show vals A++val d'::vals B=vals A++val d::vals B
  rw[hv]
 rw[e];refine hx.own h2 fun b hb hb2=>h4 b hb ?_
 rw[zan,ze1];simp[hF b hb2]
theorem zal {base:Nat} {w:World} {A B:List D} {d:D} {t k:Nat} {v:Value} (h:Row base w t k v (A++d::B)):Row base w t k v ((A++[d])++B):=by rw[List.append_assoc];exact h
theorem zfg {base:Nat} {w:World} {A B:List D} {t k t' k':Nat} {v v':Value} {ds:List D} (h:Row base w t k v (A++.row t' k' v' ds::B)):Row base w t' k' v' ds:=row_iff.1 (zgo h.kids)
theorem zgv {base:Nat} {w:World} {a:Option Addr} {t k n c:Nat} {ds:List D} (h:Row base w t k (.slice a n c) ds):ds.length=n*k/\n<=maxLen:=by
 obtain ⟨⟨n',h0,h1,h2⟩,h3,h4⟩:=h;obtain ⟨-,⟨hv,hn⟩|⟨g',cap,cur,hv,-,-,hc1,hc2,-⟩⟩:=h2
 ·cases hv
  exact ⟨by rw[h1,hn],by unfold maxLen;omega⟩
 ·cases hv
  exact ⟨h1,Nat.le_trans hc1 hc2⟩
theorem zh2 {base:Nat} {w:World} {t k:Nat} {v:Value} {ds:List D} (h:Row base w t k v ds):(v=.slice none 0 0/\ds=[])\/∃ g n c,v=.slice (some ⟨g,0,none⟩) n c:=by
 obtain ⟨⟨n,h0,h1,h2⟩,h3,h4⟩:=h;rcases z4g h2 with ⟨e,hn⟩|⟨g,c,e⟩
 ·exact .inl ⟨e,List.eq_nil_of_length_eq_zero (by rw[h1,hn,Nat.zero_mul])⟩
 ·exact .inr ⟨g,n,c,e⟩
theorem Row.cell {base:Nat} {w:World} {A B:List D} {d:D} {t k g c n m:Nat} (h:Row base w t k (.slice (some ⟨g,0,none⟩) n c) (A++d::B)) (hm:A.length=m):w.cell? ⟨g,m,none⟩=some (val d)/\w.frozen? ⟨g,m,none⟩=false:=by
 subst hm;obtain ⟨⟨n',h0,h1,h2⟩,h3,h4⟩:=h
 have hn':n'=n:=by
  obtain ⟨-,⟨hv,-⟩|⟨g',cap,cur,hv,-⟩⟩:=h2
  ·cases hv
  ·cases hv;rfl
 subst hn';refine ⟨?_,h2.frozenAt _⟩;rw[h2.cellAt _ (by rw[<-h1];simp)];rw[zeh];show (vals A++val d::vals B)[A.length]?=_
 rw[List.getElem?_append_right (by rw[zfj];exact zL _),zfj,Nat.sub_self];rfl
theorem zyk {w:World} (n:Nat) (h:n<=4611686018427387904):Good w (.int (n:Int)):=by rw[Good];exact zyy n h
theorem zn2 {w:World} (s:ByteArray) (h:s.size<=maxLen):Good w (.str s):=by rw[Good];exact h
theorem z6v {w:World} (b:Bool):Good w (.bool b):=by rw[Good];trivial
theorem znk (k:Nat) (xs:List ByteArray):zac k (strs xs)=strs (marks k xs.length):=by
 have h:∀ (n:Nat) (xs:List ByteArray),xs.length=n->zac k (strs xs)=strs (marks k n):=by
  intro n
  induction n with
  | zero=>intro xs h;rw[List.eq_nil_of_length_eq_zero h];rfl
  | succ n ih=>
   intro xs h;have hne:xs≠[]:=by intro e;rw[e] at h;simp at h
   have e:=List.dropLast_concat_getLast hne;have hl:xs.dropLast.length=n:=by rw[List.length_dropLast,h];rfl
   rw[<-e,show strs (xs.dropLast++[xs.getLast hne])=strs xs.dropLast++strs [xs.getLast hne] by simp[strs],zbt,ih _ hl,zb0,zg7,hl,marks]
   simp[strs,zac,marked]
 exact h _ xs rfl
theorem z6i {T:TypeId} (g cap n base k:Nat) (K:Int) (xs:List ByteArray) (w:World) (hn:xs.length=n) (hK:K=k) (hk:0<k) (hkn:k+n<=4611686018427387904)
  (hown:w.ownsRow base T 1 (.slice (some ⟨g,0,none⟩) n cap) n (xs.map Value.string)):
  Calls Tryz.prog 35 #[.slice (some ⟨g,0,none⟩) n cap,.int .i64 K] w fun e w'=>e=.returned (.int .i64 ((k+n:Nat):Int))/\w'.ownsRow base T 1 (.slice (some ⟨g,0,none⟩) n cap) n ((marks k n).map Value.string)/\Exc [g] w w':=by
 obtain ⟨hbg,hgl⟩:=hown.lt g rfl;subst hK;have HN:=zH hn;clear hn;go_enter Tryz.func35,Tryz.ntmps35;go_wp2_with fail
 go_loopw [1,5] (fun q j wr=>∃ i:Nat,i<=n/\j=.int .i64 i/\q=.int .i64 ((k+i:Nat):Int)/\wr.ownsRow base T 1 (.slice (some ⟨g,0,none⟩) n cap) n ((marks k i++xs.drop i).map Value.string)/\Exc [g] w wr) (fun _ j _=>n-(intOf j).toNat)
 case atStart=>exact ⟨0,by omega,rfl,rfl,by simpa [marks] using hown,Exc.refl _ _⟩
 case round=>
  obtain ⟨i,hi,rfl,rfl,ho,hbw⟩:=hrel;by_cases hlt:i<n
  ·have HO:=zH ho;clear ho
   have hpos:(0:Int)<((k+i:Nat):Int):=by omega
   have hsm:((k+i:Nat):Int)<=4611686018427387904:=by omega
   generalize hq:k+i=q at *;have HQ:=zH hq;clear hq;go_wp2_with fail
   refine (Mark.zcv (q:Int) wr hpos (by omega)).mono ?_;rintro e w1 ⟨rfl,hb1⟩;have HO1:=zH (own_keep HO.out hb1);have hlen:(marks k i++xs.drop i).length=n:=by have:=HN.out;have:=zdd k i;simp;omega
   have hcell:∃ v,w1.cell? ⟨g,i,none⟩=some v:=by rw[HO1.out.cellAt _ (by omega)];exact ⟨_,List.getElem?_eq_getElem (by rw[List.length_map,hlen];exact hlt)⟩
   obtain ⟨v,hcell⟩:=hcell;have hfr:w1.frozen? ⟨g,i,none⟩=false:=HO1.out.frozenAt _;have HB:Hid (Exc [g] w w1):=hbw.below hb1;have HM:Hid ((marks k i++xs.drop i).set i (Mark.mark (q:Int))=marks k (i+1)++xs.drop (i+1)):=by rw[<-HQ.out];exact zvg k i xs (by rw[HN.out];exact hlt)
   clear hlen hb1 HO hbw;generalize Mark.mark (q:Int)=mk at *;go_wp2_with fail
   go_roundw
   case rel=>have HO2:=(HO1.out.stored i (.string mk)).1;rw[<-List.map_set,HM.out] at HO2;exact ⟨i+1,by omega,by go_num,by rw[<-Nat.add_assoc,HQ.out];go_num,HO2,HB.out.set _ (by simp)⟩
   case measure=>simp[intOf];omega
  ·have hin:i=n:=by omega
   subst hin;go_wp2_with fail
   go_ret;exact ⟨rfl,by rw[List.drop_of_length_le (by rw[HN.out];exact zL _),List.append_nil] at ho;exact ho,hbw⟩
theorem zpt (a:Option Addr) (c:Nat) (K:Int) (w:World):
  Calls Tryz.prog 35 #[.slice a 0 c,.int .i64 K] w fun e w'=>e=.returned (.int .i64 K)/\Below w.heap.size w w':=by
 go_enter Tryz.func35,Tryz.ntmps35;go_wp2_with fail
 refine wp_loop_rounds 1 ?_;rw[rounds_succ];go_wp2_with fail
 go_ret;exact ⟨rfl,zB _ _⟩
theorem zo4 (a:Option Addr) (c:Nat) (K:Int) (w:World):
  Calls Tryz.prog 37 #[.slice a 0 c,.int .i64 K] w fun e w'=>e=.returned (.int .i64 K)/\Below w.heap.size w w':=by
 go_enter Tryz.func37,Tryz.ntmps37;go_wp2_with fail
 refine wp_loop_rounds 1 ?_;rw[rounds_succ];go_wp2_with fail
 go_ret;exact ⟨rfl,zB _ _⟩
theorem zjm {T:TypeId} {base k:Nat} {xs:List ByteArray} {v:Value} {w:World} (hown:w.ownsRow base T 1 v xs.length (xs.map Value.string)) (hk:0<k) (hkn:k+xs.length<=4611686018427387904):
  Calls Tryz.prog 35 #[v,.int .i64 (k:Int)] w fun e w'=>e=.returned (.int .i64 ((k+xs.length:Nat):Int))/\w'.ownsRow base T 1 v xs.length ((marks k xs.length).map Value.string)/\Exc (blk v) w w':=by
 have hown':=hown;obtain ⟨-,⟨rfl,hn⟩|⟨g,cap,cur,rfl,-⟩⟩:=hown
 ·refine (zpt none 0 k w).mono ?_
  rintro e w' ⟨rfl,hb⟩;refine ⟨by rw[hn];rfl,?_,(Exc.refl _ _).below hb⟩
  rw[hn];exact zg0 _ _ _
 ·refine (z6i g cap xs.length base k k xs w rfl rfl hk hkn hown').mono ?_
  rintro e w' ⟨h1,h2,h3⟩;exact ⟨h1,h2,h3.mono fun x hx=>by simpa [blk,Value.ownBlock] using hx⟩
theorem zj3 {T:TypeId} {base k n:Nat} {v:Value} {w:World} (hown:w.ownsRow base T 1 v n ((marks k n).map Value.string)) (hk:0<k) (hkn:k+n<=4611686018427387904):
  Calls Tryz.prog 37 #[v,.int .i64 (k:Int)] w fun e w'=>e=.returned (.int .i64 ((k+n:Nat):Int))/\Below w.heap.size w w':=by
 have hown':=hown;obtain ⟨-,⟨rfl,hn⟩|⟨g,cap,cur,rfl,-⟩⟩:=hown
 ·rw[hn]
  exact zo4 none 0 k w
 ·refine zy8 g 0 cap n k k w rfl hk hkn fun j hj=>?_
  rw[Nat.zero_add,hown'.cellAt j (by omega),<-zzi k n j hj];have hl:=zdd k n;simp[List.getD,hl,hj]
theorem zey (base k t:Nat) (w:World) (v:Value) (ds:List D) (hf:za7 0 (zaa ds)) (hown:Row base w t 1 v ds) (hk:0<k) (hkn:k+zba (zaa ds)<=4611686018427387904):
  Calls Tryz.prog 35 #[v,.int .i64 (k:Int)] w fun e w'=>e=.returned (.int .i64 ((k+zba (zaa ds):Nat):Int))/\Row base w' t 1 v (zac k ds)/\Exc (blk v++zah ds) w w':=by
 obtain ⟨xs,rfl⟩:=zic hf;rw[zb0,zg7] at *;obtain ⟨⟨n,h0,h1,h2⟩,h3,h4⟩:=hown;rw[zeb,Nat.mul_one] at h1;subst h1;rw[zi3] at h2;refine (zjm h2 hk hkn).mono ?_;rintro e w' ⟨rfl,h5,h6⟩;refine ⟨rfl,?_,h6.mono fun x hx=>by simp[hx]⟩
 rw[znk];have:=zlk (xs:=marks k xs.length) (v:=v) (w:=w') (base:=base) (by rw[zdd];exact h5) (ziq _ _);exact this
theorem zew (base k t:Nat) (w:World) (v:Value) (ds:List D) (hf:za7 0 (zaa ds)) (hown:Row base w t 1 v (zac k ds)) (hk:0<k) (hkn:k+zba (zaa ds)<=4611686018427387904):
  Calls Tryz.prog 37 #[v,.int .i64 (k:Int)] w fun e w'=>e=.returned (.int .i64 ((k+zba (zaa ds):Nat):Int))/\Below w.heap.size w w':=by
 obtain ⟨xs,rfl⟩:=zic hf;rw[zb0,zg7] at *;rw[znk] at hown;obtain ⟨⟨n,h0,h1,h2⟩,h3,h4⟩:=hown;rw[zeb,zdd,Nat.mul_one] at h1;subst h1;rw[zi3] at h2;exact zj3 h2 hk hkn
end Data
namespace Data
open Go.RowKit
open Strs Tree zbv
theorem zsl (NN:Nat) (KR:∀ (base k t:Nat) (w:World) (v:Value) (ds:List D),zdi (zaa ds)<NN->za7 2 (zaa ds)->Row base w t 5 v ds->0<k->k+zba (zaa ds)<=4611686018427387904->Calls Tryz.prog 36 #[v,.int .i64 (k:Int)] w fun e w'=>e=.returned (.int .i64 ((k+zba (zaa ds):Nat):Int))/\Row base w' t 5 v (zac k ds)/\Exc (blk v++zah ds) w w') (base k t:Nat) (w:World) (v:Value) (ds:List D) (hm:zdi (zaa ds)<=NN) (hf:za7 2 (zaa ds)) (hrow:Row base w t 5 v ds) (hk:0<k) (hkn:k+zba (zaa ds)<=4611686018427387904):
  Calls Tryz.prog 36 #[v,.int .i64 (k:Int)] w fun e w'=>e=.returned (.int .i64 ((k+zba (zaa ds):Nat):Int))/\Row base w' t 5 v (zac k ds)/\Exc (blk v++zah ds) w w':=by
 rcases zh2 hrow with ⟨rfl,rfl⟩|⟨g,n,c,rfl⟩
 ·clear hf hkn KR hm
  go_enter Tryz.func36,Tryz.ntmps36;go_wp2_with fail
  refine wp_loop_rounds 1 ?_;rw[rounds_succ];go_wp2_with fail
  go_ret;exact ⟨rfl,hrow,Exc.refl _ _⟩
 obtain ⟨hn,hroom⟩:=zgv hrow;unfold maxLen at hroom;have HN:=zH hn;have HF:=zH hf;have HROW:=zH hrow;have HKN:=zH hkn;clear hn hf hrow hkn;go_enter Tryz.func36,Tryz.ntmps36;go_wp2_with fail
 go_loopw [1,5] (fun q j wr=>∃ (i:Nat) (A R:List D),ds=A++R/\A.length=i*5/\za7 2 (zaa R)/\j=.int .i64 i/\q=.int .i64 ((k+zba (zaa A):Nat):Int)/\Row base wr t 5 (.slice (some ⟨g,0,none⟩) n c) (zac k A++R)/\Exc (blk (.slice (some ⟨g,0,none⟩) n c)++zah ds) w wr) (fun _ j _=>n-(intOf j).toNat)
 case atStart=>exact ⟨0,[],ds,rfl,by simp,HF.out,rfl,rfl,HROW.out,Exc.refl _ _⟩
 case round=>
  clear HROW;obtain ⟨i,A,R,hds,hal,hfr,rfl,rfl,hrow,hexc⟩:=hrel;have HD:=zH hds;have HAL:=zH hal;have HROW:=zH hrow;have HEXC:=zH hexc;clear hds hal hrow hexc;generalize hq:k+zba (zaa A)=q at *;have HQ:=zH hq;clear hq;rcases zct hfr with rfl|⟨item,rest,rfl,hfi,hfrest⟩
  ·have hin:i=n:=by
    have h1:=HN.out;rw[HD.out,List.append_nil,HAL.out] at h1;omega
   have hlt:¬((i:Int)<(n:Int)):=by omega
   clear hin hfr;go_wp2_with fail
   go_ret;refine ⟨congrArg (fun z:Nat=>Ending.returned (.int .i64 (z:Int))) (show q=k+zba (zaa ds) by rw[HD.out,List.append_nil,HQ.out]),?_,HEXC.out⟩
   have h1:=HROW.out;rw[List.append_nil] at h1;rw[HD.out,List.append_nil];exact h1
  have hil:item.length=5:=by have:=zfe hfi;rw[za0] at this;exact this
  have hlt:(i:Int)<(n:Int):=by have h1:=HN.out;rw[HD.out,List.length_append,List.length_append,HAL.out,hil] at h1;omega
  have HFR:=zH hfrest;clear hil hfr hfrest;obtain ⟨n0,e0,rfl,hfi_0⟩:=zd8 hfi;clear hfi;obtain ⟨s1,e1,rfl,hfi_1⟩:=za4 hfi_0;clear hfi_0;obtain ⟨n2,e2,rfl,hfi_2⟩:=zd8 hfi_1;clear hfi_1;obtain ⟨t3,v3,d3,e3,rfl,f3,hfi_3⟩:=zak (k:=1) rfl hfi_2;clear hfi_2;obtain ⟨t4,v4,d4,e4,rfl,f4,hfi_4⟩:=zak (k:=5) rfl hfi_3;clear hfi_3;obtain rfl:=zbh hfi_4;clear hfi_4
  have hqb:q+zba (zaa [D.int n0,D.str s1,D.int n2,D.row t3 1 v3 d3,D.row t4 5 v4 d4])<=4611686018427387904:=by have h1:=HKN.out;rw[HD.out,zao,zao,zaz,zaz] at h1;have:=HQ.out;omega
  simp only[zaa,erase,zba,cnt] at hqb;have hqp:0<q:=by have:=HQ.out;omega
  have hmi:zdi (zaa [D.int n0,D.str s1,D.int n2,D.row t3 1 v3 d3,D.row t4 5 v4 d4])<=NN:=by have h1:=hm;rw[HD.out,zao,zao,zdv,zdv] at h1;omega
  simp only[zaa,erase,zdi,ybz] at hmi;have HFS3:Hid (∀ b,b∈blk v3++zah d3->b∈blk (.slice (some ⟨g,0,none⟩) n c)++zah ds):=zH (fun b hb=>by rw[HD.out,zan,zan];simp only[zah,foot,List.append_nil,List.mem_append] at hb ⊢;rcases hb with hb|hb<;>simp[hb])
  have HFS4:Hid (∀ b,b∈blk v4++zah d4->b∈blk (.slice (some ⟨g,0,none⟩) n c)++zah ds):=zH (fun b hb=>by rw[HD.out,zan,zan];simp only[zah,foot,List.append_nil,List.mem_append] at hb ⊢;rcases hb with hb|hb<;>simp[hb])
  have hgf:g∈blk (.slice (some ⟨g,0,none⟩) n c)++zah ds:=by simp[blk,Value.ownBlock]
  have HMK:Hid (zac k (A++[D.int n0,D.str s1,D.int n2,D.row t3 1 v3 d3,D.row t4 5 v4 d4])=zac k A++zac q [D.int n0,D.str s1,D.int n2,D.row t3 1 v3 d3,D.row t4 5 v4 d4]):=zH (by rw[zbt,HQ.out]);have hml:(zac k A).length=i*5:=by rw[zbr,HAL.out]
  generalize zac k A=M0 at *;have HL0:=zH hml;clear hml;have HR0:Hid (Row base wr t 5 (.slice (some ⟨g,0,none⟩) n c) (M0++(D.int n0)::(D.str s1)::(D.int n2)::(D.row t3 1 v3 d3)::(D.row t4 5 v4 d4)::rest)):=HROW;clear HROW
  obtain ⟨c0,z0⟩:wr.cell? ⟨g,i*5,none⟩=some (Value.int .i64 n0)/\wr.frozen? ⟨g,i*5,none⟩=false:=by have h:=HR0.out;exact Row.cell h HL0.out
  obtain ⟨c1,z1⟩:wr.cell? ⟨g,i*5+1,none⟩=some (Value.string s1)/\wr.frozen? ⟨g,i*5+1,none⟩=false:=by have h:=HR0.out;replace h:=zal h;exact Row.cell h (by simp only[List.length_append,List.length_cons,List.length_nil,HL0.out])
  have HB0:Hid (0<q):=zH hqp;have hr:=zal (zed (D.int ((q:Nat):Int)) HR0.out HL0.out rfl rfl (zyk _ (by omega)));have HX1:Hid (Exc (blk (.slice (some ⟨g,0,none⟩) n c)++zah ds) w ((wr).setCell ⟨g,i*5,none⟩ (.int .i64 ((q:Int))))):=zH (HEXC.out.set _ hgf);obtain ⟨M1,hM⟩:∃ M',M'=M0++[D.int ((q:Nat):Int)]:=⟨_,rfl⟩;rw[<-hM] at hr;have HL1:Hid (M1.length=i*5+1):=zH (by rw[hM,List.length_append,HL0.out];rfl)
  have HM1:=zH hM;clear hM;have HR1:Hid (Row base ((wr).setCell ⟨g,i*5,none⟩ (.int .i64 ((q:Int)))) t 5 (.slice (some ⟨g,0,none⟩) n c) (M1++(D.str s1)::(D.int n2)::(D.row t3 1 v3 d3)::(D.row t4 5 v4 d4)::rest)):=zH hr;clear hr HR0 HEXC
  skip
  go_wp2_with fail
  refine (Mark.zcv ((q:Int)+1) _ (by omega) (by omega)).mono ?_;rintro e w1 ⟨rfl,hb1⟩;have HRs1:=zH (HR1.out.below hb1);have HXs1:=zH (HX1.out.below hb1);clear hb1 HR1 HX1 c0 z0 c1 z1;have hms1:(Mark.mark ((q:Int)+1)).size<=maxLen:=ze3 _;generalize hmk:Mark.mark ((q:Int)+1)=mk1 at *;have HMK1:=zH hmk;clear hmk
  obtain ⟨c1,z1⟩:w1.cell? ⟨g,i*5+1,none⟩=some (Value.string s1)/\w1.frozen? ⟨g,i*5+1,none⟩=false:=by have h:=HRs1.out;exact Row.cell h HL1.out
  obtain ⟨c2,z2⟩:w1.cell? ⟨g,i*5+2,none⟩=some (Value.int .i64 n2)/\w1.frozen? ⟨g,i*5+2,none⟩=false:=by have h:=HRs1.out;replace h:=zal h;exact Row.cell h (by simp only[List.length_append,List.length_cons,List.length_nil,HL1.out])
  obtain ⟨c3,z3⟩:w1.cell? ⟨g,i*5+3,none⟩=some (v3)/\w1.frozen? ⟨g,i*5+3,none⟩=false:=by have h:=HRs1.out;replace h:=zal h;replace h:=zal h;exact Row.cell h (by simp only[List.length_append,List.length_cons,List.length_nil,HL1.out])
  have hr:=zal (zed (D.str mk1) HRs1.out HL1.out rfl rfl (zn2 _ hms1));have HX2:Hid (Exc (blk (.slice (some ⟨g,0,none⟩) n c)++zah ds) w ((w1).setCell ⟨g,i*5+1,none⟩ (.string mk1))):=zH (HXs1.out.set _ hgf);obtain ⟨M2,hM⟩:∃ M',M'=M1++[D.str mk1]:=⟨_,rfl⟩;rw[<-hM] at hr;have HL2:Hid (M2.length=i*5+2):=zH (by rw[hM,List.length_append,HL1.out];rfl);have HM2:=zH hM;clear hM
  have HR2:Hid (Row base ((w1).setCell ⟨g,i*5+1,none⟩ (.string mk1)) t 5 (.slice (some ⟨g,0,none⟩) n c) (M2++(D.int n2)::(D.row t3 1 v3 d3)::(D.row t4 5 v4 d4)::rest)):=zH hr;clear hr HRs1 HXs1;have hr:=zal (zed (D.int ((q+1+1:Nat):Int)) HR2.out HL2.out rfl rfl (zyk _ (by omega)));have HX3:Hid (Exc (blk (.slice (some ⟨g,0,none⟩) n c)++zah ds) w (((w1).setCell ⟨g,i*5+1,none⟩ (.string mk1)).setCell ⟨g,i*5+2,none⟩ (.int .i64 ((q:Int)+1+1)))):=zH (HX2.out.set _ hgf)
  obtain ⟨M3,hM⟩:∃ M',M'=M2++[D.int ((q+1+1:Nat):Int)]:=⟨_,rfl⟩;rw[<-hM] at hr;have HL3:Hid (M3.length=i*5+3):=zH (by rw[hM,List.length_append,HL2.out];rfl);have HM3:=zH hM;clear hM;have HR3:Hid (Row base (((w1).setCell ⟨g,i*5+1,none⟩ (.string mk1)).setCell ⟨g,i*5+2,none⟩ (.int .i64 ((q:Int)+1+1))) t 5 (.slice (some ⟨g,0,none⟩) n c) (M3++(D.row t3 1 v3 d3)::(D.row t4 5 v4 d4)::rest)):=zH hr
  clear hr HR2 HX2;have KN3:Hid (Calls Tryz.prog 35 #[v3,.int .i64 ((q:Int)+1+1+1)] (((w1).setCell ⟨g,i*5+1,none⟩ (.string mk1)).setCell ⟨g,i*5+2,none⟩ (.int .i64 ((q:Int)+1+1))) fun e w'=>e=.returned (.int .i64 ((q+1+1+1+zba (zaa d3):Nat):Int))/\Row base w' t3 1 v3 (zac (q+1+1+1) d3)/\Exc (blk v3++zah d3) (((w1).setCell ⟨g,i*5+1,none⟩ (.string mk1)).setCell ⟨g,i*5+2,none⟩ (.int .i64 ((q:Int)+1+1))) w'):=zH (zey base (q+1+1+1) t3 (((w1).setCell ⟨g,i*5+1,none⟩ (.string mk1)).setCell ⟨g,i*5+2,none⟩ (.int .i64 ((q:Int)+1+1))) v3 d3 f3 (zfg HR3.out) (by omega) (by omega))
  go_wp2_with fail
  refine KN3.out.mono ?_;rintro e w2 ⟨rfl,hk2,hx2⟩;have hr:=zal (zer (D.row t3 1 v3 (zac (q+1+1+1) d3)) HR3.out rfl (by simp only[foot,zbq]) (row_iff.2 hk2) hx2 (fun b hb=>by rw[foot];exact hb))
  have HX4:=zH (HX3.out.trans (hx2.mono HFS3.out));obtain ⟨M4,hM⟩:∃ M',M'=M3++[D.row t3 1 v3 (zac (q+1+1+1) d3)]:=⟨_,rfl⟩;rw[<-hM] at hr;have HL4:Hid (M4.length=i*5+4):=zH (by rw[hM,List.length_append,HL3.out];rfl);have HM4:=zH hM;clear hM;have HR4:Hid (Row base w2 t 5 (.slice (some ⟨g,0,none⟩) n c) (M4++(D.row t4 5 v4 d4)::rest)):=zH hr;clear hr hk2 hx2 KN3 HFS3 HR3 HX3 f3 c1 z1 c2 z2 c3 z3
  obtain ⟨m3,hm_⟩:∃ m,m=q+1+1+1+zba (zaa d3):=⟨_,rfl⟩;rw[<-hm_];have hmp3:0<m3:=by omega
  have hmb3:m3+0+zba (zaa d4)<=4611686018427387904:=by omega
  have HQ3:=zH hm_;clear hm_
  obtain ⟨c4,z4⟩:w2.cell? ⟨g,i*5+4,none⟩=some (v4)/\w2.frozen? ⟨g,i*5+4,none⟩=false:=by have h:=HR4.out;exact Row.cell h HL4.out
  have KN4:Hid (Calls Tryz.prog 36 #[v4,.int .i64 ((m3:Int))] (w2) fun e w'=>e=.returned (.int .i64 ((m3+zba (zaa d4):Nat):Int))/\Row base w' t4 5 v4 (zac (m3) d4)/\Exc (blk v4++zah d4) (w2) w'):=zH (KR base (m3) t4 (w2) v4 d4 (by omega) f4 (zfg HR4.out) (by omega) (by omega))
  go_wp2_with fail
  refine KN4.out.mono ?_;rintro e w3 ⟨rfl,hk3,hx3⟩;have hr:=zal (zer (D.row t4 5 v4 (zac (m3) d4)) HR4.out rfl (by simp only[foot,zbq]) (row_iff.2 hk3) hx3 (fun b hb=>by rw[foot];exact hb))
  have HX5:=zH (HX4.out.trans (hx3.mono HFS4.out));obtain ⟨M5,hM⟩:∃ M',M'=M4++[D.row t4 5 v4 (zac (m3) d4)]:=⟨_,rfl⟩;rw[<-hM] at hr;have HL5:Hid (M5.length=i*5+5):=zH (by rw[hM,List.length_append,HL4.out];rfl);have HM5:=zH hM;clear hM;have HR5:Hid (Row base w3 t 5 (.slice (some ⟨g,0,none⟩) n c) (M5++rest)):=zH hr;clear hr hk3 hx3 KN4 HFS4 HR4 HX4 f4 c4 z4;obtain ⟨m4,hm_⟩:∃ m,m=m3+zba (zaa d4):=⟨_,rfl⟩
  rw[<-hm_];have hmp4:0<m4:=by omega
  have hmb4:m4+0<=4611686018427387904:=by omega
  have HQ4:=zH hm_;clear hm_
  have HFIN:Hid (zac k (A++[D.int n0,D.str s1,D.int n2,D.row t3 1 v3 d3,D.row t4 5 v4 d4])=M5):=zH (by
   rw[HMK.out];simp only[zac,marked,erase,cnt];rw[HM5.out];rw[HM4.out];rw[HM3.out];rw[HM2.out];rw[HM1.out];rw[<-HMK1.out]
   try rw[HQ4.out]
   try rw[HQ3.out]
   first|(simp only[List.append_assoc,List.cons_append,List.nil_append];done)|(simp only[List.append_assoc,List.cons_append,List.nil_append];rfl))
  have HE:Hid (m4=k+zba (zaa (A++[D.int n0,D.str s1,D.int n2,D.row t3 1 v3 d3,D.row t4 5 v4 d4]))):=zH (by rw[zao,zaz];simp only[zaa,erase,zba,cnt];have:=HQ.out;have h3':=HQ3.out;have h4':=HQ4.out;omega)
  skip
  go_wp2_with fail
  go_roundw
  case rel=>
   refine ⟨i+1,A++[D.int n0,D.str s1,D.int n2,D.row t3 1 v3 d3,D.row t4 5 v4 d4],rest,by rw[HD.out,List.append_assoc],by rw[List.length_append,HAL.out,Nat.succ_mul];rfl,HFR.out,by go_num,?_,?_,HX5.out⟩
   ·exact congrArg (fun z:Nat=>Value.int .i64 (z:Int)) HE.out
   ·rw[HFIN.out];exact HR5.out
  case measure=>simp[intOf];omega
theorem zp7 (NN:Nat):∀ (base k t:Nat) (w:World) (v:Value) (ds:List D),zdi (zaa ds)<NN->za7 2 (zaa ds)->Row base w t 5 v ds->0<k->k+zba (zaa ds)<=4611686018427387904->Calls Tryz.prog 36 #[v,.int .i64 (k:Int)] w fun e w'=>e=.returned (.int .i64 ((k+zba (zaa ds):Nat):Int))/\Row base w' t 5 v (zac k ds)/\Exc (blk v++zah ds) w w':=by
 induction NN with
 | zero=>intro _ _ _ _ _ _ h;omega
 | succ NN ih=>intro base k t w v ds hm hf hr hk hkn;exact zsl NN ih base k t w v ds (by omega) hf hr hk hkn
theorem zqo (base k t:Nat) (w:World) (v:Value) (ds:List D) (hf:za7 2 (zaa ds)) (hrow:Row base w t 5 v ds) (hk:0<k) (hkn:k+zba (zaa ds)<=4611686018427387904):
  Calls Tryz.prog 36 #[v,.int .i64 (k:Int)] w fun e w'=>e=.returned (.int .i64 ((k+zba (zaa ds):Nat):Int))/\Row base w' t 5 v (zac k ds)/\Exc (blk v++zah ds) w w':=zp7 _ base k t w v ds (Nat.lt_succ_self _) hf hrow hk hkn
end Data
namespace Data
open Go.RowKit
open Strs Tree zbv
theorem zt0 (base k t:Nat) (w:World) (v:Value) (ds:List D) (hf:za7 3 (zaa ds)) (hrow:Row base w t 5 v ds) (hk:0<k) (hkn:k+zba (zaa ds)<=4611686018427387904):
  Calls Tryz.prog 108 #[v,.int .i64 (k:Int)] w fun e w'=>e=.returned (.int .i64 ((k+zba (zaa ds):Nat):Int))/\Row base w' t 5 v (zac k ds)/\Exc (blk v++zah ds) w w':=by
 rcases zh2 hrow with ⟨rfl,rfl⟩|⟨g,n,c,rfl⟩
 ·clear hf hkn
  go_enter Tryz.func108,Tryz.ntmps108;go_wp2_with fail
  refine wp_loop_rounds 1 ?_;rw[rounds_succ];go_wp2_with fail
  go_ret;exact ⟨rfl,hrow,Exc.refl _ _⟩
 obtain ⟨hn,hroom⟩:=zgv hrow;unfold maxLen at hroom;have HN:=zH hn;have HF:=zH hf;have HROW:=zH hrow;have HKN:=zH hkn;clear hn hf hrow hkn;go_enter Tryz.func108,Tryz.ntmps108;go_wp2_with fail
 go_loopw [1,5] (fun q j wr=>∃ (i:Nat) (A R:List D),ds=A++R/\A.length=i*5/\za7 3 (zaa R)/\j=.int .i64 i/\q=.int .i64 ((k+zba (zaa A):Nat):Int)/\Row base wr t 5 (.slice (some ⟨g,0,none⟩) n c) (zac k A++R)/\Exc (blk (.slice (some ⟨g,0,none⟩) n c)++zah ds) w wr) (fun _ j _=>n-(intOf j).toNat)
 case atStart=>exact ⟨0,[],ds,rfl,by simp,HF.out,rfl,rfl,HROW.out,Exc.refl _ _⟩
 case round=>
  clear HROW;obtain ⟨i,A,R,hds,hal,hfr,rfl,rfl,hrow,hexc⟩:=hrel;have HD:=zH hds;have HAL:=zH hal;have HROW:=zH hrow;have HEXC:=zH hexc;clear hds hal hrow hexc;generalize hq:k+zba (zaa A)=q at *;have HQ:=zH hq;clear hq;rcases zct hfr with rfl|⟨item,rest,rfl,hfi,hfrest⟩
  ·have hin:i=n:=by
    have h1:=HN.out;rw[HD.out,List.append_nil,HAL.out] at h1;omega
   have hlt:¬((i:Int)<(n:Int)):=by omega
   clear hin hfr;go_wp2_with fail
   go_ret;refine ⟨congrArg (fun z:Nat=>Ending.returned (.int .i64 (z:Int))) (show q=k+zba (zaa ds) by rw[HD.out,List.append_nil,HQ.out]),?_,HEXC.out⟩
   have h1:=HROW.out;rw[List.append_nil] at h1;rw[HD.out,List.append_nil];exact h1
  have hil:item.length=5:=by have:=zfe hfi;rw[za0] at this;exact this
  have hlt:(i:Int)<(n:Int):=by have h1:=HN.out;rw[HD.out,List.length_append,List.length_append,HAL.out,hil] at h1;omega
  have HFR:=zH hfrest;clear hil hfr hfrest;obtain ⟨s0,e0,rfl,hfi_0⟩:=za4 hfi;clear hfi;obtain ⟨x1,e1,rfl,hfi_1⟩:=zcf hfi_0;clear hfi_0;obtain ⟨t2,v2,d2,e2,rfl,f2,hfi_2⟩:=zak (k:=1) rfl hfi_1;clear hfi_1;obtain ⟨t3,v3,d3,e3,rfl,f3,hfi_3⟩:=zak (k:=1) rfl hfi_2;clear hfi_2;obtain ⟨t4,v4,d4,e4,rfl,f4,hfi_4⟩:=zak (k:=5) rfl hfi_3;clear hfi_3;obtain rfl:=zbh hfi_4;clear hfi_4
  have hqb:q+zba (zaa [D.str s0,D.bool x1,D.row t2 1 v2 d2,D.row t3 1 v3 d3,D.row t4 5 v4 d4])<=4611686018427387904:=by have h1:=HKN.out;rw[HD.out,zao,zao,zaz,zaz] at h1;have:=HQ.out;omega
  simp only[zaa,erase,zba,cnt] at hqb;have hqp:0<q:=by have:=HQ.out;omega
  have HFS2:Hid (∀ b,b∈blk v2++zah d2->b∈blk (.slice (some ⟨g,0,none⟩) n c)++zah ds):=zH (fun b hb=>by rw[HD.out,zan,zan];simp only[zah,foot,List.append_nil,List.mem_append] at hb ⊢;rcases hb with hb|hb<;>simp[hb])
  have HFS3:Hid (∀ b,b∈blk v3++zah d3->b∈blk (.slice (some ⟨g,0,none⟩) n c)++zah ds):=zH (fun b hb=>by rw[HD.out,zan,zan];simp only[zah,foot,List.append_nil,List.mem_append] at hb ⊢;rcases hb with hb|hb<;>simp[hb])
  have HFS4:Hid (∀ b,b∈blk v4++zah d4->b∈blk (.slice (some ⟨g,0,none⟩) n c)++zah ds):=zH (fun b hb=>by rw[HD.out,zan,zan];simp only[zah,foot,List.append_nil,List.mem_append] at hb ⊢;rcases hb with hb|hb<;>simp[hb])
  have hgf:g∈blk (.slice (some ⟨g,0,none⟩) n c)++zah ds:=by simp[blk,Value.ownBlock]
  have HMK:Hid (zac k (A++[D.str s0,D.bool x1,D.row t2 1 v2 d2,D.row t3 1 v3 d3,D.row t4 5 v4 d4])=zac k A++zac q [D.str s0,D.bool x1,D.row t2 1 v2 d2,D.row t3 1 v3 d3,D.row t4 5 v4 d4]):=zH (by rw[zbt,HQ.out]);have hml:(zac k A).length=i*5:=by rw[zbr,HAL.out]
  generalize zac k A=M0 at *;have HL0:=zH hml;clear hml;have HR0:Hid (Row base wr t 5 (.slice (some ⟨g,0,none⟩) n c) (M0++(D.str s0)::(D.bool x1)::(D.row t2 1 v2 d2)::(D.row t3 1 v3 d3)::(D.row t4 5 v4 d4)::rest)):=HROW;clear HROW
  obtain ⟨c0,z0⟩:wr.cell? ⟨g,i*5,none⟩=some (Value.string s0)/\wr.frozen? ⟨g,i*5,none⟩=false:=by have h:=HR0.out;exact Row.cell h HL0.out
  obtain ⟨c1,z1⟩:wr.cell? ⟨g,i*5+1,none⟩=some (Value.bool x1)/\wr.frozen? ⟨g,i*5+1,none⟩=false:=by have h:=HR0.out;replace h:=zal h;exact Row.cell h (by simp only[List.length_append,List.length_cons,List.length_nil,HL0.out])
  obtain ⟨c2,z2⟩:wr.cell? ⟨g,i*5+2,none⟩=some (v2)/\wr.frozen? ⟨g,i*5+2,none⟩=false:=by have h:=HR0.out;replace h:=zal h;replace h:=zal h;exact Row.cell h (by simp only[List.length_append,List.length_cons,List.length_nil,HL0.out])
  have HB0:Hid (0<q):=zH hqp
  skip
  go_wp2_with fail
  refine (Mark.zcv ((q:Int)) _ (by omega) (by omega)).mono ?_;rintro e w1 ⟨rfl,hb1⟩;have HRs1:=zH (HR0.out.below hb1);have HXs1:=zH (HEXC.out.below hb1);clear hb1 HR0 HEXC c0 z0 c1 z1 c2 z2;have hms0:(Mark.mark ((q:Int))).size<=maxLen:=ze3 _;generalize hmk:Mark.mark ((q:Int))=mk0 at *;have HMK0:=zH hmk;clear hmk
  obtain ⟨c0,z0⟩:w1.cell? ⟨g,i*5,none⟩=some (Value.string s0)/\w1.frozen? ⟨g,i*5,none⟩=false:=by have h:=HRs1.out;exact Row.cell h HL0.out
  obtain ⟨c1,z1⟩:w1.cell? ⟨g,i*5+1,none⟩=some (Value.bool x1)/\w1.frozen? ⟨g,i*5+1,none⟩=false:=by have h:=HRs1.out;replace h:=zal h;exact Row.cell h (by simp only[List.length_append,List.length_cons,List.length_nil,HL0.out])
  obtain ⟨c2,z2⟩:w1.cell? ⟨g,i*5+2,none⟩=some (v2)/\w1.frozen? ⟨g,i*5+2,none⟩=false:=by have h:=HRs1.out;replace h:=zal h;replace h:=zal h;exact Row.cell h (by simp only[List.length_append,List.length_cons,List.length_nil,HL0.out])
  have hr:=zal (zed (D.str mk0) HRs1.out HL0.out rfl rfl (zn2 _ hms0));have HX1:Hid (Exc (blk (.slice (some ⟨g,0,none⟩) n c)++zah ds) w ((w1).setCell ⟨g,i*5,none⟩ (.string mk0))):=zH (HXs1.out.set _ hgf);obtain ⟨M1,hM⟩:∃ M',M'=M0++[D.str mk0]:=⟨_,rfl⟩;rw[<-hM] at hr;have HL1:Hid (M1.length=i*5+1):=zH (by rw[hM,List.length_append,HL0.out];rfl);have HM1:=zH hM;clear hM
  have HR1:Hid (Row base ((w1).setCell ⟨g,i*5,none⟩ (.string mk0)) t 5 (.slice (some ⟨g,0,none⟩) n c) (M1++(D.bool x1)::(D.row t2 1 v2 d2)::(D.row t3 1 v3 d3)::(D.row t4 5 v4 d4)::rest)):=zH hr;clear hr HRs1 HXs1;have hr:=zal (zed (D.bool (((q+1:Nat):Int) % 3==0)) HR1.out HL1.out rfl rfl (z6v _));have HX2:Hid (Exc (blk (.slice (some ⟨g,0,none⟩) n c)++zah ds) w (((w1).setCell ⟨g,i*5,none⟩ (.string mk0)).setCell ⟨g,i*5+1,none⟩ (.bool (((q:Int)+1) % 3==0)))):=zH (HX1.out.set _ hgf)
  obtain ⟨M2,hM⟩:∃ M',M'=M1++[D.bool (((q+1:Nat):Int) % 3==0)]:=⟨_,rfl⟩;rw[<-hM] at hr;have HL2:Hid (M2.length=i*5+2):=zH (by rw[hM,List.length_append,HL1.out];rfl);have HM2:=zH hM;clear hM;have HR2:Hid (Row base (((w1).setCell ⟨g,i*5,none⟩ (.string mk0)).setCell ⟨g,i*5+1,none⟩ (.bool (((q:Int)+1) % 3==0))) t 5 (.slice (some ⟨g,0,none⟩) n c) (M2++(D.row t2 1 v2 d2)::(D.row t3 1 v3 d3)::(D.row t4 5 v4 d4)::rest)):=zH hr
  clear hr HR1 HX1;have KN2:Hid (Calls Tryz.prog 35 #[v2,.int .i64 ((q:Int)+1+1)] (((w1).setCell ⟨g,i*5,none⟩ (.string mk0)).setCell ⟨g,i*5+1,none⟩ (.bool (((q:Int)+1) % 3==0))) fun e w'=>e=.returned (.int .i64 ((q+1+1+zba (zaa d2):Nat):Int))/\Row base w' t2 1 v2 (zac (q+1+1) d2)/\Exc (blk v2++zah d2) (((w1).setCell ⟨g,i*5,none⟩ (.string mk0)).setCell ⟨g,i*5+1,none⟩ (.bool (((q:Int)+1) % 3==0))) w'):=zH (zey base (q+1+1) t2 (((w1).setCell ⟨g,i*5,none⟩ (.string mk0)).setCell ⟨g,i*5+1,none⟩ (.bool (((q:Int)+1) % 3==0))) v2 d2 f2 (zfg HR2.out) (by omega) (by omega))
  go_wp2_with fail
  refine KN2.out.mono ?_;rintro e w2 ⟨rfl,hk2,hx2⟩;have hr:=zal (zer (D.row t2 1 v2 (zac (q+1+1) d2)) HR2.out rfl (by simp only[foot,zbq]) (row_iff.2 hk2) hx2 (fun b hb=>by rw[foot];exact hb))
  have HX3:=zH (HX2.out.trans (hx2.mono HFS2.out));obtain ⟨M3,hM⟩:∃ M',M'=M2++[D.row t2 1 v2 (zac (q+1+1) d2)]:=⟨_,rfl⟩;rw[<-hM] at hr;have HL3:Hid (M3.length=i*5+3):=zH (by rw[hM,List.length_append,HL2.out];rfl);have HM3:=zH hM;clear hM;have HR3:Hid (Row base w2 t 5 (.slice (some ⟨g,0,none⟩) n c) (M3++(D.row t3 1 v3 d3)::(D.row t4 5 v4 d4)::rest)):=zH hr;clear hr hk2 hx2 KN2 HFS2 HR2 HX2 f2 c0 z0 c1 z1 c2 z2
  obtain ⟨m2,hm_⟩:∃ m,m=q+1+1+zba (zaa d2):=⟨_,rfl⟩;rw[<-hm_];have hmp2:0<m2:=by omega
  have hmb2:m2+0+zba (zaa d3)+zba (zaa d4)<=4611686018427387904:=by omega
  have HQ2:=zH hm_;clear hm_
  obtain ⟨c3,z3⟩:w2.cell? ⟨g,i*5+3,none⟩=some (v3)/\w2.frozen? ⟨g,i*5+3,none⟩=false:=by have h:=HR3.out;exact Row.cell h HL3.out
  have KN3:Hid (Calls Tryz.prog 35 #[v3,.int .i64 ((m2:Int))] (w2) fun e w'=>e=.returned (.int .i64 ((m2+zba (zaa d3):Nat):Int))/\Row base w' t3 1 v3 (zac (m2) d3)/\Exc (blk v3++zah d3) (w2) w'):=zH (zey base (m2) t3 (w2) v3 d3 f3 (zfg HR3.out) (by omega) (by omega))
  go_wp2_with fail
  refine KN3.out.mono ?_;rintro e w3 ⟨rfl,hk3,hx3⟩;have hr:=zal (zer (D.row t3 1 v3 (zac (m2) d3)) HR3.out rfl (by simp only[foot,zbq]) (row_iff.2 hk3) hx3 (fun b hb=>by rw[foot];exact hb))
  have HX4:=zH (HX3.out.trans (hx3.mono HFS3.out));obtain ⟨M4,hM⟩:∃ M',M'=M3++[D.row t3 1 v3 (zac (m2) d3)]:=⟨_,rfl⟩;rw[<-hM] at hr;have HL4:Hid (M4.length=i*5+4):=zH (by rw[hM,List.length_append,HL3.out];rfl);have HM4:=zH hM;clear hM;have HR4:Hid (Row base w3 t 5 (.slice (some ⟨g,0,none⟩) n c) (M4++(D.row t4 5 v4 d4)::rest)):=zH hr;clear hr hk3 hx3 KN3 HFS3 HR3 HX3 f3 c3 z3
  obtain ⟨m3,hm_⟩:∃ m,m=m2+zba (zaa d3):=⟨_,rfl⟩;rw[<-hm_];have hmp3:0<m3:=by omega
  have hmb3:m3+0+zba (zaa d4)<=4611686018427387904:=by omega
  have HQ3:=zH hm_;clear hm_
  obtain ⟨c4,z4⟩:w3.cell? ⟨g,i*5+4,none⟩=some (v4)/\w3.frozen? ⟨g,i*5+4,none⟩=false:=by have h:=HR4.out;exact Row.cell h HL4.out
  have KN4:Hid (Calls Tryz.prog 36 #[v4,.int .i64 ((m3:Int))] (w3) fun e w'=>e=.returned (.int .i64 ((m3+zba (zaa d4):Nat):Int))/\Row base w' t4 5 v4 (zac (m3) d4)/\Exc (blk v4++zah d4) (w3) w'):=zH (zqo base (m3) t4 (w3) v4 d4 f4 (zfg HR4.out) (by omega) (by omega))
  go_wp2_with fail
  refine KN4.out.mono ?_;rintro e w4 ⟨rfl,hk4,hx4⟩;have hr:=zal (zer (D.row t4 5 v4 (zac (m3) d4)) HR4.out rfl (by simp only[foot,zbq]) (row_iff.2 hk4) hx4 (fun b hb=>by rw[foot];exact hb))
  have HX5:=zH (HX4.out.trans (hx4.mono HFS4.out));obtain ⟨M5,hM⟩:∃ M',M'=M4++[D.row t4 5 v4 (zac (m3) d4)]:=⟨_,rfl⟩;rw[<-hM] at hr;have HL5:Hid (M5.length=i*5+5):=zH (by rw[hM,List.length_append,HL4.out];rfl);have HM5:=zH hM;clear hM;have HR5:Hid (Row base w4 t 5 (.slice (some ⟨g,0,none⟩) n c) (M5++rest)):=zH hr;clear hr hk4 hx4 KN4 HFS4 HR4 HX4 f4 c4 z4;obtain ⟨m4,hm_⟩:∃ m,m=m3+zba (zaa d4):=⟨_,rfl⟩
  rw[<-hm_];have hmp4:0<m4:=by omega
  have hmb4:m4+0<=4611686018427387904:=by omega
  have HQ4:=zH hm_;clear hm_
  have HFIN:Hid (zac k (A++[D.str s0,D.bool x1,D.row t2 1 v2 d2,D.row t3 1 v3 d3,D.row t4 5 v4 d4])=M5):=zH (by
   rw[HMK.out];simp only[zac,marked,erase,cnt];rw[HM5.out];rw[HM4.out];rw[HM3.out];rw[HM2.out];rw[HM1.out];rw[<-HMK0.out]
   try rw[HQ4.out]
   try rw[HQ3.out]
   try rw[HQ2.out]
   first|(simp only[List.append_assoc,List.cons_append,List.nil_append];done)|(simp only[List.append_assoc,List.cons_append,List.nil_append];rfl))
  have HE:Hid (m4=k+zba (zaa (A++[D.str s0,D.bool x1,D.row t2 1 v2 d2,D.row t3 1 v3 d3,D.row t4 5 v4 d4]))):=zH (by rw[zao,zaz];simp only[zaa,erase,zba,cnt];have:=HQ.out;have h2':=HQ2.out;have h3':=HQ3.out;have h4':=HQ4.out;omega)
  skip
  go_wp2_with fail
  go_roundw
  case rel=>
   refine ⟨i+1,A++[D.str s0,D.bool x1,D.row t2 1 v2 d2,D.row t3 1 v3 d3,D.row t4 5 v4 d4],rest,by rw[HD.out,List.append_assoc],by rw[List.length_append,HAL.out,Nat.succ_mul];rfl,HFR.out,by go_num,?_,?_,HX5.out⟩
   ·exact congrArg (fun z:Nat=>Value.int .i64 (z:Int)) HE.out
   ·rw[HFIN.out];exact HR5.out
  case measure=>simp[intOf];omega
theorem zos (base k:Nat) (w:World) (ds:List D) (hf:zdc (env 3) (zaa ds)) (hown:Own base w ds) (hk:0<k) (hkn:k+zdt (zaa ds)<=4611686018427387904):
  Calls Tryz.prog 20 #[agg ds,.int .i64 (k:Int)] w fun e w'=>e=.returned (.int .i64 ((k+zdt (zaa ds):Nat):Int))/\Own base w' (zd9 k ds)/\Exc (zah ds) w w':=by
 obtain ⟨s0,e0,rfl,hf_0⟩:=za4 hf;clear hf;obtain ⟨x1,e1,rfl,hf_1⟩:=zcf hf_0;clear hf_0;obtain ⟨t2,v2,d2,e2,rfl,f2,hf_2⟩:=zak (k:=1) rfl hf_1;clear hf_1;obtain ⟨t3,v3,d3,e3,rfl,f3,hf_3⟩:=zak (k:=1) rfl hf_2;clear hf_2;obtain ⟨t4,v4,d4,e4,rfl,f4,hf_4⟩:=zak (k:=5) rfl hf_3;clear hf_3;obtain rfl:=zbh hf_4;clear hf_4;simp only[zaa,erase,zdt,zox] at hkn;have hb0:Below w.heap.size w (w.alloc (Obj.cells #[Value.string s0,Value.bool x1,v2,v3,v4] 41)):=(zB _ _).alloc (zL _) _
 have C0:Hid (Cells w.heap.size [D.str s0,D.bool x1,D.row t2 1 v2 d2,D.row t3 1 v3 d3,D.row t4 5 v4 d4] (w.alloc (Obj.cells #[Value.string s0,Value.bool x1,v2,v3,v4] 41))):=zH (zae w [D.str s0,D.bool x1,D.row t2 1 v2 d2,D.row t3 1 v3 d3,D.row t4 5 v4 d4] _);have HLT:Hid (∀ b,b∈zah [D.str s0,D.bool x1,D.row t2 1 v2 d2,D.row t3 1 v3 d3,D.row t4 5 v4 d4]->b≠w.heap.size):=zH (fun b hb=>by have:=hown.lt b hb;omega)
 have HO0:Hid (Own base (w.alloc (Obj.cells #[Value.string s0,Value.bool x1,v2,v3,v4] 41)) ([]++[D.str s0,D.bool x1,D.row t2 1 v2 d2,D.row t3 1 v3 d3,D.row t4 5 v4 d4])):=zH (hown.below hb0);have HX0:Hid (Exc (zah [D.str s0,D.bool x1,D.row t2 1 v2 d2,D.row t3 1 v3 d3,D.row t4 5 v4 d4]) w (w.alloc (Obj.cells #[Value.string s0,Value.bool x1,v2,v3,v4] 41))):=zH ((Exc.refl _ _).below hb0);clear hown hb0
 rw[show agg [D.str s0,D.bool x1,D.row t2 1 v2 d2,D.row t3 1 v3 d3,D.row t4 5 v4 d4]=Value.agg #[Value.string s0,Value.bool x1,v2,v3,v4] from rfl]
 go_enter Tryz.func20,Tryz.ntmps20;have hqp:0<k:=hk;have a2:=C0.out.at 2 (D.row t2 1 v2 d2) rfl;simp only[val] at a2;have ho:Own base (w.alloc (Obj.cells #[Value.string s0,Value.bool x1,v2,v3,v4] 41)) ([D.str s0,D.bool x1]++(D.row t2 1 v2 d2)::(D.row t3 1 v3 d3)::(D.row t4 5 v4 d4)::[]):=HO0.out;have KN2:=zH (zey base (k) t2 (w.alloc (Obj.cells #[Value.string s0,Value.bool x1,v2,v3,v4] 41)) v2 d2 f2 (row_iff.1 (zgo ho)) (by omega) (by omega))
 have HO:=zH ho;clear ho;go_wp2_with fail
 refine KN2.out.mono ?_;rintro e w1 ⟨rfl,hr,hx⟩;have HO1:Hid (Own base w1 ([D.str s0,D.bool x1]++(D.row t2 1 v2 (zac (k) d2))::(D.row t3 1 v3 d3)::(D.row t4 5 v4 d4)::[])):=zH (zjg (D.row t2 1 v2 (zac (k) d2)) HO.out (row_iff.2 hr) (by simp only[foot,zbq]) hx (fun b hb=>by rw[foot];exact hb))
 have hF:∀ b,b∈blk v2++zah d2->b∈zah [D.str s0,D.bool x1,D.row t2 1 v2 d2,D.row t3 1 v3 d3,D.row t4 5 v4 d4]:=fun b hb=>by simp only[zah,foot,List.append_nil,List.nil_append,List.mem_append] at hb ⊢;rcases hb with hb|hb<;>simp[hb]
 have HX1:=zH (HX0.out.trans (hx.mono hF));have C1:Hid (Cells w.heap.size [D.str s0,D.bool x1,D.row t2 1 v2 d2,D.row t3 1 v3 d3,D.row t4 5 v4 d4] w1):=zH (C0.out.exc hx (fun e=>HLT.out _ (hF _ e) rfl))
 clear hr hx hF KN2 C0 HX0 HO0 a2 HO;obtain ⟨m2,hm_⟩:∃ m,m=k+zba (zaa d2):=⟨_,rfl⟩;rw[<-hm_];have hmp2:0<m2:=by omega
 have HQ2:=zH hm_
 skip
 have hmb2:m2+0+zba (zaa d3)+zba (zaa d4)<=4611686018427387904:=by omega
 clear hm_;have a3:=C1.out.at 3 (D.row t3 1 v3 d3) rfl;simp only[val] at a3;have ho:Own base (w1) ([D.str s0,D.bool x1,D.row t2 1 v2 (zac (k) d2)]++(D.row t3 1 v3 d3)::(D.row t4 5 v4 d4)::[]):=HO1.out;have KN3:=zH (zey base (m2) t3 (w1) v3 d3 f3 (row_iff.1 (zgo ho)) (by omega) (by omega));have HO:=zH ho;clear ho;go_wp2_with fail
 refine KN3.out.mono ?_;rintro e w2 ⟨rfl,hr,hx⟩;have HO2:Hid (Own base w2 ([D.str s0,D.bool x1,D.row t2 1 v2 (zac (k) d2)]++(D.row t3 1 v3 (zac (m2) d3))::(D.row t4 5 v4 d4)::[])):=zH (zjg (D.row t3 1 v3 (zac (m2) d3)) HO.out (row_iff.2 hr) (by simp only[foot,zbq]) hx (fun b hb=>by rw[foot];exact hb))
 have hF:∀ b,b∈blk v3++zah d3->b∈zah [D.str s0,D.bool x1,D.row t2 1 v2 d2,D.row t3 1 v3 d3,D.row t4 5 v4 d4]:=fun b hb=>by simp only[zah,foot,List.append_nil,List.nil_append,List.mem_append] at hb ⊢;rcases hb with hb|hb<;>simp[hb]
 have HX2:=zH (HX1.out.trans (hx.mono hF));have C2:Hid (Cells w.heap.size [D.str s0,D.bool x1,D.row t2 1 v2 d2,D.row t3 1 v3 d3,D.row t4 5 v4 d4] w2):=zH (C1.out.exc hx (fun e=>HLT.out _ (hF _ e) rfl))
 clear hr hx hF KN3 C1 HX1 HO1 a3 HO;obtain ⟨m3,hm_⟩:∃ m,m=m2+zba (zaa d3):=⟨_,rfl⟩;rw[<-hm_];have hmp3:0<m3:=by omega
 have HQ3:=zH hm_
 skip
 have hmb3:m3+0+zba (zaa d4)<=4611686018427387904:=by omega
 clear hm_;have a4:=C2.out.at 4 (D.row t4 5 v4 d4) rfl;simp only[val] at a4;have ho:Own base (w2) ([D.str s0,D.bool x1,D.row t2 1 v2 (zac (k) d2),D.row t3 1 v3 (zac (m2) d3)]++(D.row t4 5 v4 d4)::[]):=HO2.out;have KN4:=zH (zqo base (m3) t4 (w2) v4 d4 f4 (row_iff.1 (zgo ho)) (by omega) (by omega));have HO:=zH ho;clear ho;go_wp2_with fail
 refine KN4.out.mono ?_;rintro e w3 ⟨rfl,hr,hx⟩;have HO3:Hid (Own base w3 ([D.str s0,D.bool x1,D.row t2 1 v2 (zac (k) d2),D.row t3 1 v3 (zac (m2) d3)]++(D.row t4 5 v4 (zac (m3) d4))::[])):=zH (zjg (D.row t4 5 v4 (zac (m3) d4)) HO.out (row_iff.2 hr) (by simp only[foot,zbq]) hx (fun b hb=>by rw[foot];exact hb))
 have hF:∀ b,b∈blk v4++zah d4->b∈zah [D.str s0,D.bool x1,D.row t2 1 v2 d2,D.row t3 1 v3 d3,D.row t4 5 v4 d4]:=fun b hb=>by simp only[zah,foot,List.append_nil,List.nil_append,List.mem_append] at hb ⊢;rcases hb with hb|hb<;>simp[hb]
 have HX3:=zH (HX2.out.trans (hx.mono hF));have C3:Hid (Cells w.heap.size [D.str s0,D.bool x1,D.row t2 1 v2 d2,D.row t3 1 v3 d3,D.row t4 5 v4 d4] w3):=zH (C2.out.exc hx (fun e=>HLT.out _ (hF _ e) rfl))
 clear hr hx hF KN4 C2 HX2 HO2 a4 HO;obtain ⟨m4,hm_⟩:∃ m,m=m3+zba (zaa d4):=⟨_,rfl⟩;rw[<-hm_];have hmp4:0<m4:=by omega
 have HQ4:=zH hm_
 skip
 have hmb4:m4+0<=4611686018427387904:=by omega
 clear hm_;go_wp2_with fail
 go_ret;refine ⟨?_,?_,HX3.out⟩
 ·refine congrArg (fun z:Nat=>Ending.returned (.int .i64 (z:Int))) (show m4=k+zdt (zaa [D.str s0,D.bool x1,D.row t2 1 v2 d2,D.row t3 1 v3 d3,D.row t4 5 v4 d4]) from ?_)
  simp only[zaa,erase,zdt,zox];have h2':=HQ2.out;have h3':=HQ3.out;have h4':=HQ4.out;omega
 ·have h:=HO3.out
  try rw[HQ4.out] at h
  try rw[HQ3.out] at h
  try rw[HQ2.out] at h
  simp only[List.nil_append,List.cons_append] at h;simp only[zd9,zko,zox,erase,Nat.add_zero,Nat.add_assoc] at h ⊢;exact h
end Data
namespace Data
open Go.RowKit
open Strs Tree zbv
theorem zst (NN:Nat) (KR:∀ (base k t:Nat) (w:World) (v:Value) (ds:List D),zdi (zaa ds)<NN->za7 2 (zaa ds)->Row base w t 5 v (zac k ds)->0<k->k+zba (zaa ds)<=4611686018427387904->Calls Tryz.prog 38 #[v,.int .i64 (k:Int)] w fun e w'=>e=.returned (.int .i64 ((k+zba (zaa ds):Nat):Int))/\Below w.heap.size w w') (base k t:Nat) (w:World) (v:Value) (ds:List D) (hm:zdi (zaa ds)<=NN) (hf:za7 2 (zaa ds)) (hrow:Row base w t 5 v (zac k ds)) (hk:0<k) (hkn:k+zba (zaa ds)<=4611686018427387904):
  Calls Tryz.prog 38 #[v,.int .i64 (k:Int)] w fun e w'=>e=.returned (.int .i64 ((k+zba (zaa ds):Nat):Int))/\Below w.heap.size w w':=by
 rcases zh2 hrow with ⟨rfl,hnil⟩|⟨g,n,c,rfl⟩
 ·have hd0:ds=[]:=List.eq_nil_of_length_eq_zero (by rw[<-zbr k ds,hnil];rfl)
  subst hd0;clear hf hkn hnil hrow KR hm;go_enter Tryz.func38,Tryz.ntmps38;go_wp2_with fail
  refine wp_loop_rounds 1 ?_;rw[rounds_succ];go_wp2_with fail
  go_ret;exact ⟨rfl,zB _ _⟩
 obtain ⟨hn,hroom⟩:=zgv hrow;rw[zbr] at hn;unfold maxLen at hroom;have HN:=zH hn;have HF:=zH hf;have HROW:=zH hrow;have HKN:=zH hkn;clear hn hf hrow hkn;go_enter Tryz.func38,Tryz.ntmps38;go_wp2_with fail
 go_loopw [1,5] (fun q j wr=>∃ (i:Nat) (A R:List D),ds=A++R/\A.length=i*5/\za7 2 (zaa R)/\j=.int .i64 i/\q=.int .i64 ((k+zba (zaa A):Nat):Int)/\Below w.heap.size w wr) (fun _ j _=>n-(intOf j).toNat)
 case atStart=>exact ⟨0,[],ds,rfl,by simp,HF.out,rfl,rfl,zB _ _⟩
 case round=>
  obtain ⟨i,A,R,hds,hal,hfr,rfl,rfl,hbw⟩:=hrel;have HD:=zH hds;have HAL:=zH hal;have HBW:=zH hbw;clear hds hal hbw;generalize hq:k+zba (zaa A)=q at *;have HQ:=zH hq;clear hq;rcases zct hfr with rfl|⟨item,rest,rfl,hfi,hfrest⟩
  ·have hin:i=n:=by
    have h1:=HN.out;rw[HD.out,List.append_nil,HAL.out] at h1;omega
   have hlt:¬((i:Int)<(n:Int)):=by omega
   clear hin hfr;go_wp2_with fail
   go_ret;exact ⟨congrArg (fun z:Nat=>Ending.returned (.int .i64 (z:Int))) (show q=k+zba (zaa ds) by rw[HD.out,List.append_nil,HQ.out]),HBW.out⟩
  have hil:item.length=5:=by have:=zfe hfi;rw[za0] at this;exact this
  have hlt:(i:Int)<(n:Int):=by have h1:=HN.out;rw[HD.out,List.length_append,List.length_append,HAL.out,hil] at h1;omega
  have HFR:=zH hfrest;clear hil hfr hfrest;obtain ⟨n0,e0,rfl,hfi_0⟩:=zd8 hfi;clear hfi;obtain ⟨s1,e1,rfl,hfi_1⟩:=za4 hfi_0;clear hfi_0;obtain ⟨n2,e2,rfl,hfi_2⟩:=zd8 hfi_1;clear hfi_1;obtain ⟨t3,v3,d3,e3,rfl,f3,hfi_3⟩:=zak (k:=1) rfl hfi_2;clear hfi_2;obtain ⟨t4,v4,d4,e4,rfl,f4,hfi_4⟩:=zak (k:=5) rfl hfi_3;clear hfi_3;obtain rfl:=zbh hfi_4;clear hfi_4
  have hqb:q+zba (zaa [D.int n0,D.str s1,D.int n2,D.row t3 1 v3 d3,D.row t4 5 v4 d4])<=4611686018427387904:=by have h1:=HKN.out;rw[HD.out,zao,zao,zaz,zaz] at h1;have:=HQ.out;omega
  simp only[zaa,erase,zba,cnt] at hqb;have hqp:0<q:=by have:=HQ.out;omega
  have hmi:zdi (zaa [D.int n0,D.str s1,D.int n2,D.row t3 1 v3 d3,D.row t4 5 v4 d4])<=NN:=by have h1:=hm;rw[HD.out,zao,zao,zdv,zdv] at h1;omega
  simp only[zaa,erase,zdi,ybz] at hmi;have hml:(zac k A).length=i*5:=by rw[zbr,HAL.out]
  obtain ⟨mk1,hmk⟩:∃ z,z=Mark.mark ((q+1:Nat):Int):=⟨_,rfl⟩;have HMK1:=zH hmk;clear hmk;obtain ⟨m3,hm_⟩:∃ m,m=q+1+1+1+zba (zaa d3):=⟨_,rfl⟩;have hmp3:0<m3:=by omega
  have hmb3:m3+0+zba (zaa d4)<=4611686018427387904:=by omega
  have hmz3:¬((m3:Int)<0):=by omega
  have HQ3:=zH hm_;clear hm_;obtain ⟨m4,hm_⟩:∃ m,m=m3+zba (zaa d4):=⟨_,rfl⟩;have hmp4:0<m4:=by omega
  have hmb4:m4+0<=4611686018427387904:=by omega
  have hmz4:¬((m4:Int)<0):=by omega
  have HQ4:=zH hm_;clear hm_
  have HRW:Hid (Row base w t 5 (.slice (some ⟨g,0,none⟩) n c) (zac k A++((D.int ((q:Nat):Int))::(D.str mk1)::(D.int ((q+1+1:Nat):Int))::(D.row t3 1 v3 (zac (q+1+1+1) d3))::(D.row t4 5 v4 (zac (m3) d4))::(zac (k+zba (zaa (A++[D.int n0,D.str s1,D.int n2,D.row t3 1 v3 d3,D.row t4 5 v4 d4]))) rest)))):=zH (by
   have h:=HROW.out;rw[HD.out,<-List.append_assoc,zbt,zbt,HQ.out,List.append_assoc] at h;simp only[zac,marked,erase,cnt] at h
   try rw[HQ4.out]
   try rw[HQ3.out]
   rw[HMK1.out];exact h)
  generalize zac k A=M0 at *;have HL0:=zH hml;have HB0:=zH HBW.out;clear hml HBW
  obtain ⟨c0,-⟩:wr.cell? ⟨g,i*5,none⟩=some (.int .i64 ((q:Int)))/\wr.frozen? ⟨g,i*5,none⟩=false:=by have h:=HRW.out.below HB0.out;exact Row.cell h HL0.out
  obtain ⟨c1,-⟩:wr.cell? ⟨g,i*5+1,none⟩=some (.string mk1)/\wr.frozen? ⟨g,i*5+1,none⟩=false:=by have h:=HRW.out.below HB0.out;replace h:=zal h;exact Row.cell h (by simp only[List.length_append,List.length_cons,List.length_nil,HL0.out])
  have hpos:(0:Int)<(q:Int)+1:=by omega
  have hbw:=HB0.out;go_wp2_with fail
  go_region_held3 (fun w'=>w'.cell? ⟨g,i*5+1,none⟩=some (.string mk1)/\Below w.heap.size w w')
   (first|exact ⟨c1,hbw.drew⟩|exact ⟨cell_keep hb1 (show wr.drew.cell? _=_ from c1),hbw.drew.trans (hb1.mono hbw.size)⟩|go_keep)
   (first|(go_at_call 83;refine (Mark.zcv ((q:Int)+1) _ hpos (by omega)).mono ?_;rintro e w1 ⟨rfl,hb1⟩;rw[show Mark.mark ((q:Int)+1)=mk1 from HMK1.out.symm]))
  all_goals
   have HB1:=zH (hbw.drew.trans (hb1.mono hbw.size));clear hb1 hbw hpos HB0 c0 c1
   obtain ⟨c2,-⟩:w1.cell? ⟨g,i*5+2,none⟩=some (.int .i64 ((q:Int)+1+1))/\w1.frozen? ⟨g,i*5+2,none⟩=false:=by have h:=HRW.out.below HB1.out;replace h:=zal h;replace h:=zal h;exact Row.cell h (by simp only[List.length_append,List.length_cons,List.length_nil,HL0.out])
   obtain ⟨c3,-⟩:w1.cell? ⟨g,i*5+3,none⟩=some (v3)/\w1.frozen? ⟨g,i*5+3,none⟩=false:=by have h:=HRW.out.below HB1.out;replace h:=zal h;replace h:=zal h;replace h:=zal h;exact Row.cell h (by simp only[List.length_append,List.length_cons,List.length_nil,HL0.out])
   have hrk:Row base w1 t3 1 v3 (zac (q+1+1+1) d3):=by have h:=HRW.out.below HB1.out;replace h:=zal h;replace h:=zal h;replace h:=zal h;exact zfg h
   have KN:Hid (Calls Tryz.prog 37 #[v3,.int .i64 ((q:Int)+1+1+1)] w1 fun e w'=>e=.returned (.int .i64 (m3:Int))/\Below w1.heap.size w1 w'):=zH (by have h:=zew base (q+1+1+1) t3 w1 v3 d3 f3 hrk (by omega) (by omega);rw[<-HQ3.out] at h;exact h)
   clear hrk;go_wp2_with fail
   refine KN.out.mono ?_;rintro e w2 ⟨rfl,hb2⟩;have HB2:=zH (HB1.out.trans (hb2.mono HB1.out.size));clear hb2 KN HB1 c2 c3
   obtain ⟨c4,-⟩:w2.cell? ⟨g,i*5+4,none⟩=some (v4)/\w2.frozen? ⟨g,i*5+4,none⟩=false:=by have h:=HRW.out.below HB2.out;replace h:=zal h;replace h:=zal h;replace h:=zal h;replace h:=zal h;exact Row.cell h (by simp only[List.length_append,List.length_cons,List.length_nil,HL0.out])
   have hrk:Row base w2 t4 5 v4 (zac (m3) d4):=by have h:=HRW.out.below HB2.out;replace h:=zal h;replace h:=zal h;replace h:=zal h;replace h:=zal h;exact zfg h
   have KN:Hid (Calls Tryz.prog 38 #[v4,.int .i64 ((m3:Int))] w2 fun e w'=>e=.returned (.int .i64 (m4:Int))/\Below w2.heap.size w2 w'):=zH (by have h:=KR base (m3) t4 w2 v4 d4 (by omega) f4 hrk (by omega) (by omega);rw[<-HQ4.out] at h;exact h)
   clear hrk;go_wp2_with fail
   refine KN.out.mono ?_;rintro e w3 ⟨rfl,hb3⟩;have HB3:=zH (HB2.out.trans (hb3.mono HB2.out.size));clear hb3 KN HB2 c4
   have HE:Hid (m4=k+zba (zaa (A++[D.int n0,D.str s1,D.int n2,D.row t3 1 v3 d3,D.row t4 5 v4 d4]))):=zH (by rw[zao,zaz];simp only[zaa,erase,zba,cnt];have:=HQ.out;have h3':=HQ3.out;have h4':=HQ4.out;omega)
   go_wp2_with fail
   go_roundw
   case rel=>exact ⟨i+1,A++[D.int n0,D.str s1,D.int n2,D.row t3 1 v3 d3,D.row t4 5 v4 d4],rest,by rw[HD.out,List.append_assoc],by rw[List.length_append,HAL.out,Nat.succ_mul];rfl,HFR.out,by go_num,congrArg (fun z:Nat=>Value.int .i64 (z:Int)) HE.out,HB3.out⟩
   case measure=>simp[intOf];omega
theorem zp8 (NN:Nat):∀ (base k t:Nat) (w:World) (v:Value) (ds:List D),zdi (zaa ds)<NN->za7 2 (zaa ds)->Row base w t 5 v (zac k ds)->0<k->k+zba (zaa ds)<=4611686018427387904->Calls Tryz.prog 38 #[v,.int .i64 (k:Int)] w fun e w'=>e=.returned (.int .i64 ((k+zba (zaa ds):Nat):Int))/\Below w.heap.size w w':=by
 induction NN with
 | zero=>intro _ _ _ _ _ _ h;omega
 | succ NN ih=>intro base k t w v ds hm hf hr hk hkn;exact zst NN ih base k t w v ds (by omega) hf hr hk hkn
theorem zq6 (base k t:Nat) (w:World) (v:Value) (ds:List D) (hf:za7 2 (zaa ds)) (hrow:Row base w t 5 v (zac k ds)) (hk:0<k) (hkn:k+zba (zaa ds)<=4611686018427387904):
  Calls Tryz.prog 38 #[v,.int .i64 (k:Int)] w fun e w'=>e=.returned (.int .i64 ((k+zba (zaa ds):Nat):Int))/\Below w.heap.size w w':=zp8 _ base k t w v ds (Nat.lt_succ_self _) hf hrow hk hkn
end Data
namespace Data
open Go.RowKit
open Strs Tree zbv
theorem zty (base k t:Nat) (w:World) (v:Value) (ds:List D) (hf:za7 3 (zaa ds)) (hrow:Row base w t 5 v (zac k ds)) (hk:0<k) (hkn:k+zba (zaa ds)<=4611686018427387904):
  Calls Tryz.prog 109 #[v,.int .i64 (k:Int)] w fun e w'=>e=.returned (.int .i64 ((k+zba (zaa ds):Nat):Int))/\Below w.heap.size w w':=by
 rcases zh2 hrow with ⟨rfl,hnil⟩|⟨g,n,c,rfl⟩
 ·have hd0:ds=[]:=List.eq_nil_of_length_eq_zero (by rw[<-zbr k ds,hnil];rfl)
  subst hd0;clear hf hkn hnil hrow;go_enter Tryz.func109,Tryz.ntmps109;go_wp2_with fail
  refine wp_loop_rounds 1 ?_;rw[rounds_succ];go_wp2_with fail
  go_ret;exact ⟨rfl,zB _ _⟩
 obtain ⟨hn,hroom⟩:=zgv hrow;rw[zbr] at hn;unfold maxLen at hroom;have HN:=zH hn;have HF:=zH hf;have HROW:=zH hrow;have HKN:=zH hkn;clear hn hf hrow hkn;go_enter Tryz.func109,Tryz.ntmps109;go_wp2_with fail
 go_loopw [1,5] (fun q j wr=>∃ (i:Nat) (A R:List D),ds=A++R/\A.length=i*5/\za7 3 (zaa R)/\j=.int .i64 i/\q=.int .i64 ((k+zba (zaa A):Nat):Int)/\Below w.heap.size w wr) (fun _ j _=>n-(intOf j).toNat)
 case atStart=>exact ⟨0,[],ds,rfl,by simp,HF.out,rfl,rfl,zB _ _⟩
 case round=>
  obtain ⟨i,A,R,hds,hal,hfr,rfl,rfl,hbw⟩:=hrel;have HD:=zH hds;have HAL:=zH hal;have HBW:=zH hbw;clear hds hal hbw;generalize hq:k+zba (zaa A)=q at *;have HQ:=zH hq;clear hq;rcases zct hfr with rfl|⟨item,rest,rfl,hfi,hfrest⟩
  ·have hin:i=n:=by
    have h1:=HN.out;rw[HD.out,List.append_nil,HAL.out] at h1;omega
   have hlt:¬((i:Int)<(n:Int)):=by omega
   clear hin hfr;go_wp2_with fail
   go_ret;exact ⟨congrArg (fun z:Nat=>Ending.returned (.int .i64 (z:Int))) (show q=k+zba (zaa ds) by rw[HD.out,List.append_nil,HQ.out]),HBW.out⟩
  have hil:item.length=5:=by have:=zfe hfi;rw[za0] at this;exact this
  have hlt:(i:Int)<(n:Int):=by have h1:=HN.out;rw[HD.out,List.length_append,List.length_append,HAL.out,hil] at h1;omega
  have HFR:=zH hfrest;clear hil hfr hfrest;obtain ⟨s0,e0,rfl,hfi_0⟩:=za4 hfi;clear hfi;obtain ⟨x1,e1,rfl,hfi_1⟩:=zcf hfi_0;clear hfi_0;obtain ⟨t2,v2,d2,e2,rfl,f2,hfi_2⟩:=zak (k:=1) rfl hfi_1;clear hfi_1;obtain ⟨t3,v3,d3,e3,rfl,f3,hfi_3⟩:=zak (k:=1) rfl hfi_2;clear hfi_2;obtain ⟨t4,v4,d4,e4,rfl,f4,hfi_4⟩:=zak (k:=5) rfl hfi_3;clear hfi_3;obtain rfl:=zbh hfi_4;clear hfi_4
  have hqb:q+zba (zaa [D.str s0,D.bool x1,D.row t2 1 v2 d2,D.row t3 1 v3 d3,D.row t4 5 v4 d4])<=4611686018427387904:=by have h1:=HKN.out;rw[HD.out,zao,zao,zaz,zaz] at h1;have:=HQ.out;omega
  simp only[zaa,erase,zba,cnt] at hqb;have hqp:0<q:=by have:=HQ.out;omega
  have hml:(zac k A).length=i*5:=by rw[zbr,HAL.out]
  obtain ⟨mk0,hmk⟩:∃ z,z=Mark.mark ((q:Nat):Int):=⟨_,rfl⟩;have HMK0:=zH hmk;clear hmk;obtain ⟨m2,hm_⟩:∃ m,m=q+1+1+zba (zaa d2):=⟨_,rfl⟩;have hmp2:0<m2:=by omega
  have hmb2:m2+0+zba (zaa d3)+zba (zaa d4)<=4611686018427387904:=by omega
  have hmz2:¬((m2:Int)<0):=by omega
  have HQ2:=zH hm_;clear hm_;obtain ⟨m3,hm_⟩:∃ m,m=m2+zba (zaa d3):=⟨_,rfl⟩;have hmp3:0<m3:=by omega
  have hmb3:m3+0+zba (zaa d4)<=4611686018427387904:=by omega
  have hmz3:¬((m3:Int)<0):=by omega
  have HQ3:=zH hm_;clear hm_;obtain ⟨m4,hm_⟩:∃ m,m=m3+zba (zaa d4):=⟨_,rfl⟩;have hmp4:0<m4:=by omega
  have hmb4:m4+0<=4611686018427387904:=by omega
  have hmz4:¬((m4:Int)<0):=by omega
  have HQ4:=zH hm_;clear hm_
  have HRW:Hid (Row base w t 5 (.slice (some ⟨g,0,none⟩) n c) (zac k A++((D.str mk0)::(D.bool (((q+1:Nat):Int) % 3==0))::(D.row t2 1 v2 (zac (q+1+1) d2))::(D.row t3 1 v3 (zac (m2) d3))::(D.row t4 5 v4 (zac (m3) d4))::(zac (k+zba (zaa (A++[D.str s0,D.bool x1,D.row t2 1 v2 d2,D.row t3 1 v3 d3,D.row t4 5 v4 d4]))) rest)))):=zH (by
   have h:=HROW.out;rw[HD.out,<-List.append_assoc,zbt,zbt,HQ.out,List.append_assoc] at h;simp only[zac,marked,erase,cnt] at h
   try rw[HQ4.out]
   try rw[HQ3.out]
   try rw[HQ2.out]
   rw[HMK0.out];exact h)
  generalize zac k A=M0 at *;have HL0:=zH hml;have HB0:=zH HBW.out;clear hml HBW
  obtain ⟨c0,-⟩:wr.cell? ⟨g,i*5,none⟩=some (.string mk0)/\wr.frozen? ⟨g,i*5,none⟩=false:=by have h:=HRW.out.below HB0.out;exact Row.cell h HL0.out
  have hpos:(0:Int)<(q:Int):=by omega
  have hbw:=HB0.out;go_wp2_with fail
  go_region_held3 (fun w'=>w'.cell? ⟨g,i*5,none⟩=some (.string mk0)/\Below w.heap.size w w')
   (first|exact ⟨c0,hbw.drew⟩|exact ⟨cell_keep hb1 (show wr.drew.cell? _=_ from c0),hbw.drew.trans (hb1.mono hbw.size)⟩|go_keep)
   (first|(go_at_call 83;refine (Mark.zcv ((q:Int)) _ hpos (by omega)).mono ?_;rintro e w1 ⟨rfl,hb1⟩;rw[show Mark.mark ((q:Int))=mk0 from HMK0.out.symm]))
  all_goals
   have HB1:=zH (hbw.drew.trans (hb1.mono hbw.size));clear hb1 hbw hpos HB0 c0
   obtain ⟨c1,-⟩:w1.cell? ⟨g,i*5+1,none⟩=some (.bool (((q:Int)+1) % 3==0))/\w1.frozen? ⟨g,i*5+1,none⟩=false:=by have h:=HRW.out.below HB1.out;replace h:=zal h;exact Row.cell h (by simp only[List.length_append,List.length_cons,List.length_nil,HL0.out])
   obtain ⟨c2,-⟩:w1.cell? ⟨g,i*5+2,none⟩=some (v2)/\w1.frozen? ⟨g,i*5+2,none⟩=false:=by have h:=HRW.out.below HB1.out;replace h:=zal h;replace h:=zal h;exact Row.cell h (by simp only[List.length_append,List.length_cons,List.length_nil,HL0.out])
   have hrk:Row base w1 t2 1 v2 (zac (q+1+1) d2):=by have h:=HRW.out.below HB1.out;replace h:=zal h;replace h:=zal h;exact zfg h
   have KN:Hid (Calls Tryz.prog 37 #[v2,.int .i64 ((q:Int)+1+1)] w1 fun e w'=>e=.returned (.int .i64 (m2:Int))/\Below w1.heap.size w1 w'):=zH (by have h:=zew base (q+1+1) t2 w1 v2 d2 f2 hrk (by omega) (by omega);rw[<-HQ2.out] at h;exact h)
   clear hrk;go_wp2_with fail
   refine KN.out.mono ?_;rintro e w2 ⟨rfl,hb2⟩;have HB2:=zH (HB1.out.trans (hb2.mono HB1.out.size));clear hb2 KN HB1 c1 c2
   obtain ⟨c3,-⟩:w2.cell? ⟨g,i*5+3,none⟩=some (v3)/\w2.frozen? ⟨g,i*5+3,none⟩=false:=by have h:=HRW.out.below HB2.out;replace h:=zal h;replace h:=zal h;replace h:=zal h;exact Row.cell h (by simp only[List.length_append,List.length_cons,List.length_nil,HL0.out])
   have hrk:Row base w2 t3 1 v3 (zac (m2) d3):=by have h:=HRW.out.below HB2.out;replace h:=zal h;replace h:=zal h;replace h:=zal h;exact zfg h
   have KN:Hid (Calls Tryz.prog 37 #[v3,.int .i64 ((m2:Int))] w2 fun e w'=>e=.returned (.int .i64 (m3:Int))/\Below w2.heap.size w2 w'):=zH (by have h:=zew base (m2) t3 w2 v3 d3 f3 hrk (by omega) (by omega);rw[<-HQ3.out] at h;exact h)
   clear hrk;go_wp2_with fail
   refine KN.out.mono ?_;rintro e w3 ⟨rfl,hb3⟩;have HB3:=zH (HB2.out.trans (hb3.mono HB2.out.size));clear hb3 KN HB2 c3
   obtain ⟨c4,-⟩:w3.cell? ⟨g,i*5+4,none⟩=some (v4)/\w3.frozen? ⟨g,i*5+4,none⟩=false:=by have h:=HRW.out.below HB3.out;replace h:=zal h;replace h:=zal h;replace h:=zal h;replace h:=zal h;exact Row.cell h (by simp only[List.length_append,List.length_cons,List.length_nil,HL0.out])
   have hrk:Row base w3 t4 5 v4 (zac (m3) d4):=by have h:=HRW.out.below HB3.out;replace h:=zal h;replace h:=zal h;replace h:=zal h;replace h:=zal h;exact zfg h
   have KN:Hid (Calls Tryz.prog 38 #[v4,.int .i64 ((m3:Int))] w3 fun e w'=>e=.returned (.int .i64 (m4:Int))/\Below w3.heap.size w3 w'):=zH (by have h:=zq6 base (m3) t4 w3 v4 d4 f4 hrk (by omega) (by omega);rw[<-HQ4.out] at h;exact h)
   clear hrk;go_wp2_with fail
   refine KN.out.mono ?_;rintro e w4 ⟨rfl,hb4⟩;have HB4:=zH (HB3.out.trans (hb4.mono HB3.out.size));clear hb4 KN HB3 c4
   have HE:Hid (m4=k+zba (zaa (A++[D.str s0,D.bool x1,D.row t2 1 v2 d2,D.row t3 1 v3 d3,D.row t4 5 v4 d4]))):=zH (by rw[zao,zaz];simp only[zaa,erase,zba,cnt];have:=HQ.out;have h2':=HQ2.out;have h3':=HQ3.out;have h4':=HQ4.out;omega)
   go_wp2_with fail
   go_roundw
   case rel=>exact ⟨i+1,A++[D.str s0,D.bool x1,D.row t2 1 v2 d2,D.row t3 1 v3 d3,D.row t4 5 v4 d4],rest,by rw[HD.out,List.append_assoc],by rw[List.length_append,HAL.out,Nat.succ_mul];rfl,HFR.out,by go_num,congrArg (fun z:Nat=>Value.int .i64 (z:Int)) HE.out,HB4.out⟩
   case measure=>simp[intOf];omega
theorem zks (base k:Nat) (w:World) (ds:List D) (hf:zdc (env 3) (zaa ds)) (hown:Own base w (zd9 k ds)) (hk:0<k) (hkn:k+zdt (zaa ds)<=4611686018427387904):
  Calls Tryz.prog 21 #[agg ds,.int .i64 (k:Int)] w fun e w'=>e=.returned (.int .i64 ((k+zdt (zaa ds):Nat):Int))/\Below w.heap.size w w':=by
 obtain ⟨s0,e0,rfl,hf_0⟩:=za4 hf;clear hf;obtain ⟨x1,e1,rfl,hf_1⟩:=zcf hf_0;clear hf_0;obtain ⟨t2,v2,d2,e2,rfl,f2,hf_2⟩:=zak (k:=1) rfl hf_1;clear hf_1;obtain ⟨t3,v3,d3,e3,rfl,f3,hf_3⟩:=zak (k:=1) rfl hf_2;clear hf_2;obtain ⟨t4,v4,d4,e4,rfl,f4,hf_4⟩:=zak (k:=5) rfl hf_3;clear hf_3;obtain rfl:=zbh hf_4;clear hf_4;simp only[zaa,erase,zdt,zox] at hkn;have hb0:Below w.heap.size w (w.alloc (Obj.cells #[Value.string s0,Value.bool x1,v2,v3,v4] 41)):=(zB _ _).alloc (zL _) _
 have C0:Hid (Cells w.heap.size [D.str s0,D.bool x1,D.row t2 1 v2 d2,D.row t3 1 v3 d3,D.row t4 5 v4 d4] (w.alloc (Obj.cells #[Value.string s0,Value.bool x1,v2,v3,v4] 41))):=zH (zae w [D.str s0,D.bool x1,D.row t2 1 v2 d2,D.row t3 1 v3 d3,D.row t4 5 v4 d4] _);have HB0:=zH hb0;obtain ⟨m2,hm_⟩:∃ m,m=k+zba (zaa d2):=⟨_,rfl⟩;have hmp2:0<m2:=by omega
 have hmb2:m2+0+zba (zaa d3)+zba (zaa d4)<=4611686018427387904:=by omega
 have hmz2:¬((m2:Int)<0):=by omega
 have HQ2:=zH hm_;clear hm_;obtain ⟨m3,hm_⟩:∃ m,m=m2+zba (zaa d3):=⟨_,rfl⟩;have hmp3:0<m3:=by omega
 have hmb3:m3+0+zba (zaa d4)<=4611686018427387904:=by omega
 have hmz3:¬((m3:Int)<0):=by omega
 have HQ3:=zH hm_;clear hm_;obtain ⟨m4,hm_⟩:∃ m,m=m3+zba (zaa d4):=⟨_,rfl⟩;have hmp4:0<m4:=by omega
 have hmb4:m4+0<=4611686018427387904:=by omega
 have hmz4:¬((m4:Int)<0):=by omega
 have HQ4:=zH hm_;clear hm_
 have HO:Hid (Own base (w.alloc (Obj.cells #[Value.string s0,Value.bool x1,v2,v3,v4] 41)) ((D.str s0)::((D.bool x1)::((D.row t2 1 v2 (zac (k) d2))::((D.row t3 1 v3 (zac (m2) d3))::((D.row t4 5 v4 (zac (m3) d4))::[])))))):=zH (by
  have h:=hown.below hb0
  try rw[HQ4.out]
  try rw[HQ3.out]
  try rw[HQ2.out]
  simp only[zd9,zko,zox,erase,Nat.add_zero] at h;exact h)
 clear hown hb0;rw[show agg [D.str s0,D.bool x1,D.row t2 1 v2 d2,D.row t3 1 v3 d3,D.row t4 5 v4 d4]=Value.agg #[Value.string s0,Value.bool x1,v2,v3,v4] from rfl]
 go_enter Tryz.func21,Tryz.ntmps21;have a2:=C0.out.at 2 (D.row t2 1 v2 d2) rfl;simp only[val] at a2;have ho:Own base (w.alloc (Obj.cells #[Value.string s0,Value.bool x1,v2,v3,v4] 41)) (((D.str s0)::((D.bool x1)::[]))++(D.row t2 1 v2 (zac (k) d2))::((D.row t3 1 v3 (zac (m2) d3))::((D.row t4 5 v4 (zac (m3) d4))::[]))):=HO.out;have KN:Hid (Calls Tryz.prog 37 #[v2,.int .i64 (k:Int)] (w.alloc (Obj.cells #[Value.string s0,Value.bool x1,v2,v3,v4] 41)) fun e w'=>e=.returned (.int .i64 (m2:Int))/\Below (w.alloc (Obj.cells #[Value.string s0,Value.bool x1,v2,v3,v4] 41)).heap.size (w.alloc (Obj.cells #[Value.string s0,Value.bool x1,v2,v3,v4] 41)) w'):=zH (by have h:=zew base k t2 (w.alloc (Obj.cells #[Value.string s0,Value.bool x1,v2,v3,v4] 41)) v2 d2 f2 (row_iff.1 (zgo ho)) (by omega) (by have:=HQ2.out;omega);rw[<-HQ2.out] at h;exact h)
 clear ho;go_wp2_with fail
 refine KN.out.mono ?_;rintro e w1 ⟨rfl,hb1⟩;have HO':=zH (HO.out.below hb1);clear HO;have HO:=HO';clear HO';have HB1:=zH (HB0.out.trans (hb1.mono HB0.out.size));have C1:=zH (C0.out.step hb1);clear hb1 KN C0 HB0 a2;have a3:=C1.out.at 3 (D.row t3 1 v3 d3) rfl;simp only[val] at a3;have ho:Own base w1 (((D.str s0)::((D.bool x1)::((D.row t2 1 v2 (zac (k) d2))::[])))++(D.row t3 1 v3 (zac (m2) d3))::((D.row t4 5 v4 (zac (m3) d4))::[])):=HO.out
 have KN:Hid (Calls Tryz.prog 37 #[v3,.int .i64 (m2:Int)] w1 fun e w'=>e=.returned (.int .i64 (m3:Int))/\Below w1.heap.size w1 w'):=zH (by have h:=zew base m2 t3 w1 v3 d3 f3 (row_iff.1 (zgo ho)) (by omega) (by have:=HQ3.out;omega);rw[<-HQ3.out] at h;exact h)
 clear ho;go_wp2_with fail
 refine KN.out.mono ?_;rintro e w2 ⟨rfl,hb2⟩;have HO':=zH (HO.out.below hb2);clear HO;have HO:=HO';clear HO';have HB2:=zH (HB1.out.trans (hb2.mono HB1.out.size));have C2:=zH (C1.out.step hb2);clear hb2 KN C1 HB1 a3;have a4:=C2.out.at 4 (D.row t4 5 v4 d4) rfl;simp only[val] at a4;have ho:Own base w2 (((D.str s0)::((D.bool x1)::((D.row t2 1 v2 (zac (k) d2))::((D.row t3 1 v3 (zac (m2) d3))::[]))))++(D.row t4 5 v4 (zac (m3) d4))::[]):=HO.out
 have KN:Hid (Calls Tryz.prog 38 #[v4,.int .i64 (m3:Int)] w2 fun e w'=>e=.returned (.int .i64 (m4:Int))/\Below w2.heap.size w2 w'):=zH (by have h:=zq6 base m3 t4 w2 v4 d4 f4 (row_iff.1 (zgo ho)) (by omega) (by have:=HQ4.out;omega);rw[<-HQ4.out] at h;exact h)
 clear ho;go_wp2_with fail
 refine KN.out.mono ?_;rintro e w3 ⟨rfl,hb3⟩;have HO':=zH (HO.out.below hb3);clear HO;have HO:=HO';clear HO';have HB3:=zH (HB2.out.trans (hb3.mono HB2.out.size));have C3:=zH (C2.out.step hb3);clear hb3 KN C2 HB2 a4;go_wp2_with fail
 go_ret;refine ⟨congrArg (fun z:Nat=>Ending.returned (.int .i64 (z:Int))) (show m4=k+zdt (zaa [D.str s0,D.bool x1,D.row t2 1 v2 d2,D.row t3 1 v3 d3,D.row t4 5 v4 d4]) from ?_),HB3.out⟩
 simp only[zaa,erase,zdt,zox];have h2':=HQ2.out;have h3':=HQ3.out;have h4':=HQ4.out;omega
end Data
end Go.Proofs.YtlmhgeanknhcfaaGreatDoor
