/-
  Short names of three laws that stand everywhere. Kit At Num Mark Strs Cuts ImplSplit PMap
-/
import Derived.ProofKit
import Derived.Test.YtlmhgeanknhcfaaGreatDoorRows
import Derived.WalkSpells
import Derived.Lib.Hide
import Derived.BigQuiet
import Derived.WalkSmall
import Derived.Deep.RegionHeld3
set_option maxHeartbeats 1000000
namespace Go.Proofs.YtlmhgeanknhcfaaGreatDoor
open Go.RowKit
theorem zH {p : Prop} (h : p) : Hid p := Lib.hid h
theorem zL (n : Nat) : n ≤ n := Nat.le_refl n
theorem zB (B : Nat) (w : World) : Below B w w := Below.refl B w
end Go.Proofs.YtlmhgeanknhcfaaGreatDoor
namespace Go.Proofs.YtlmhgeanknhcfaaGreatDoor
namespace Kit
open Go.RowKit
theorem yen (w:World) (c:Int):
  (convert 153 9 (.slice (some ⟨w.heap.size,0,none⟩) 1 1)).run Tryz.prog (w.alloc (.cells #[.int .u8 c] 5)) =
   .ok (.string ⟨[UInt8.ofNat c.toNat].toArray⟩) (w.alloc (.cells #[.int .u8 c] 5)):=by
 have h:=run_convert_bytes_arg (P:=Tryz.prog) (w.alloc (.cells #[.int .u8 c] 5)) 153 5 Tryz.underlying153 Tryz.underlying5 w.heap.size 0 1 1 [c] rfl
  (fun i hi=>by
   have:i=0:=by omega
   subst this;simp) 9 Tryz.underlying9
 simpa [strOfNums] using h
theorem z8i (w:World) (base g c cap:Nat) (l:List UInt8) (hl:l.length=c) (h:w.ownsRow base 5 1 (.slice (some ⟨g,0,none⟩) c cap) c (l.map (fun b=>Value.int .u8 b.toNat))):
  (convert 153 9 (.slice (some ⟨g,0,none⟩) c cap)).run Tryz.prog w=.ok (.string ⟨l.toArray⟩) w:=by
 subst hl;refine run_convert_bytes_back w 153 9 5 ⟨g,0,none⟩ cap l Tryz.underlying153 Tryz.underlying5 Tryz.underlying9 (fun j hj=>?_)
 have:=h.cellAt j (by omega);have e:(⟨g,0,none⟩:Addr).add j=⟨g,j,none⟩:=by unfold Addr.add;split<;>simp_all
 rw[e]
 simpa [hj] using this
theorem zh0 {w wr w':World} {base:Nat} {e:TypeId} {o:Obj} {v:Value} {n:Nat} {xs:List Value} (hb:base<=w.heap.size) (h:Below base w wr) (hown:wr.ownsRow base e 1 v n xs) (hg:(wr.alloc o).grownBy w' v.ownBlock):Below base w w':=by have h1:base<=wr.heap.size:=Nat.le_trans hb h.size;exact (h.alloc h1 o).grown hg (by simp;omega) (fun k hk=>(hown.lt k hk).1)
theorem zes (w:World) (v:Value) (t:TypeId):∀ (j:Nat) (u:Value),[v][j]?=some u->(w.alloc (.cells #[v] t)).cell? ((⟨w.heap.size,0,none⟩:Addr).add j)=some u:=by
 intro j u hj
 match j,hj with
 | 0,hj=>simp at hj;subst hj;simp[Addr.add]
theorem zi5 (s:ByteArray):∀ u:Value,u∈[Value.string s]->u.oneCell'=true:=by intro u hu;simp at hu;subst hu;rfl
theorem zzn (w:World) (base:Nat) (v:Value) (l:List UInt8) (h:w.ownsRow base 5 1 v l.length (l.map (fun b=>Value.int .u8 b.toNat))):
  (convert 153 9 v).run Tryz.prog w=.ok (.string ⟨l.toArray⟩) w:=by
 have h':=h;obtain ⟨_,⟨rfl,hn⟩|⟨g,cap,cur,rfl,_⟩⟩:=h
 ·have:l=[]:=List.eq_nil_of_length_eq_zero hn
  subst this;exact run_convert_bytes_nil w 153 5 Tryz.underlying153 Tryz.underlying5 0 0 9 Tryz.underlying9
 ·exact z8i w base g l.length cap l rfl h'
theorem za5 {w:World} {base:Nat} {e:TypeId} {size:Nat} {v:Value} {n:Nat} {xs:List Value} (h:w.ownsRow base e size v n xs):∃ a c,v=.slice a n c:=by
 obtain ⟨_,⟨rfl,hn⟩|⟨g,cap,cur,rfl,_⟩⟩:=h
 ·exact ⟨none,0,by rw[hn]⟩
 ·exact ⟨_,cap,rfl⟩
theorem one_byte (c:Int):∀ u:Value,u∈[Value.int .u8 c]->u.oneCell'=true:=by intro u hu;simp at hu;subst hu;rfl
end Kit
namespace Strs
open Go.RowKit
def At (w:World) (v:Value) (xs:List ByteArray):Prop:=
 ∃ a cap,v=.slice a xs.length cap/\xs.length<=maxLen/\(0<xs.length->∃ b off,a=some ⟨b,off,none⟩/\∀ j,j<xs.length->w.cell? ⟨b,off+j,none⟩=some (.string (xs.getD j ByteArray.empty)))
theorem at_own {w:World} {base:Nat} {v:Value} {xs:List ByteArray} (h:w.ownsRow base 9 1 v xs.length (xs.map Value.string)):At w v xs:=by
 have h':=h;obtain ⟨_,⟨rfl,hn⟩|⟨g,cap,cur,rfl,_,hg,hnc,hcm,_,_⟩⟩:=h
 ·exact ⟨none,0,by rw[hn],by unfold maxLen;omega,fun hp=>by omega⟩
 ·refine ⟨_,cap,rfl,by omega,fun hp=>⟨g,0,rfl,fun j hj=>?_⟩⟩
  rw[Nat.zero_add,h'.cellAt j (by omega)];simp[hj,List.getD]
theorem cell_lt {w:World} {a:Addr} {v:Value} (h:w.cell? a=some v):a.block<w.heap.size:=by
 rcases Nat.lt_or_ge a.block w.heap.size with h1|h1
 ·exact h1
 ·have h2:w.heap[a.block]?=none:=by rw[Array.getElem?_eq_none_iff];exact h1
  simp[World.cell?,h2] at h
theorem cell_keep {w w':World} {b o:Nat} {v:Value} (hb:Below w.heap.size w w') (h:w.cell? ⟨b,o,none⟩=some v):w'.cell? ⟨b,o,none⟩=some v:=by rw[hb.cell (p:=⟨b,o,none⟩) (cell_lt h)];exact h
theorem own_keep {w w':World} {base:Nat} {e:TypeId} {size:Nat} {v:Value} {n:Nat} {xs:List Value} (h:w.ownsRow base e size v n xs) (hb:Below w.heap.size w w'):w'.ownsRow base e size v n xs:=by
 have hlt:=h.lt;refine ⟨h.1,?_⟩;rcases h.2 with hn|⟨g,cap,cur,rfl,hbg,hgg,rest⟩
 ·exact .inl hn
 ·exact .inr ⟨g,cap,cur,rfl,hbg,by rw[hb.block g (hlt g rfl).2];exact hgg,rest⟩
theorem At.keep {w w':World} {v:Value} {xs:List ByteArray} (h:At w v xs) (hb:Below w.heap.size w w'):At w' v xs:=by
 obtain ⟨a,cap,rfl,hm,hc⟩:=h;refine ⟨a,cap,rfl,hm,fun hp=>?_⟩
 obtain ⟨b,off,rfl,hd⟩:=hc hp;exact ⟨b,off,rfl,fun j hj=>cell_keep hb (hd j hj)⟩
end Strs
namespace Num
def dec:Nat->Nat->List UInt8
 | 0,_=>[]
 | f+1,n=>if n=0 then [] else dec f (n / 10)++[48+UInt8.ofNat (n % 10)]
theorem z9j (f:Nat):dec f 0=[]:=by cases f<;>simp[dec]
theorem z7r (f:Nat):∀ n,n<10 ^ f->dec (f+1) n=dec f n:=by
 induction f with
 | zero=>
  intro n h;have:n=0:=by omega
  subst this;simp[dec]
 | succ f ih=>
  intro n h;rw[dec,dec.eq_2 n f];have:n / 10<10 ^ f:=by rw[Nat.pow_succ] at h;omega
  rw[ih _ this]
def zxx (n:Nat):List UInt8:=dec 20 n
theorem z3z:zxx 0=[]:=z9j _
theorem z4c (n:Nat) (h:0<n) (hb:n<=18446744073709551615):zxx n=zxx (n / 10)++[48+UInt8.ofNat (n % 10)]:=by unfold zxx;rw[dec.eq_2 n 19,if_neg (by omega),z7r 19 (n / 10) (by omega)]
theorem yb5 (m:Nat) (l r:List UInt8) (h:0<m) (hb:m<=18446744073709551615) (hd:zxx m++l=r):
  zxx (m / 10)++((48+UInt8.ofNat (m % 10))::l)=r:=by
 rw[<-hd,z4c m h hb,List.append_assoc];rfl
theorem yav (f:Nat):∀ n,(dec f n).length<=f:=by
 induction f with
 | zero=>intro n;simp[dec]
 | succ f ih=>
  intro n;rw[dec];split
  ·simp
  ·have:=ih (n / 10);simp;omega
theorem zr7 (n:Nat):(zxx n).length<=20:=yav _ _
theorem zzu (a l:List UInt8) (n:Nat) (h:a++l=zxx n):l.length<=20:=by have h1:=congrArg List.length h;have:=zr7 n;simp at h1;omega
end Num
namespace Mark
open Go.RowKit
def mark (n:Int):ByteArray:=⟨(109::Num.zxx n.natAbs).toArray⟩
theorem zcv (n:Int) (w:World) (h1:0<n) (h2:n<=9223372036854775807):
  Calls Tryz.prog 83 #[.int .i64 n] w fun e w'=>e=.returned (.string (mark n))/\Below w.heap.size w w':=by
 have hn:decide (n<=0)=false:=by simp;omega
 have hcv:=Kit.yen;go_enter Tryz.func83,Tryz.ntmps83;go_wp2_with fail
 go_loopw [0,3] (fun t s wr=>∃ (m:Nat) (l:List UInt8),(m:Int)<=n/\l.length<=20/\t=.int .i64 m/\s=.string ⟨l.toArray⟩/\Num.zxx m++l=Num.zxx n.natAbs/\Below w.heap.size w wr)
  (fun t _ _=>(intOf t).toNat)
 case atStart=>exact ⟨n.natAbs,[],by omega,by simp,by congr 1;omega,rfl,by simp,zB _ _⟩
 case round=>
  obtain ⟨m,l,hm,hl,rfl,rfl,hd,hbl⟩:=hrel;have HD:=zH hd;clear hd;by_cases hz:m=0
  ·subst hz
   go_wp2_with fail
   go_ret;exact ⟨by unfold mark;rw[<-HD.out,Num.z3z,ByteArray.mk_append_mk];rfl,hbl⟩
  ·have hz':(0:Int)<(m:Int):=by omega
   have hmd:¬((m:Int) % 10<0):=by omega
   have hz3:m<=18446744073709551615:=by omega
   go_wp2_with fail
   go_roundw
   case rel=>have HE:=Num.yb5 m l _ (by omega) hz3 HD.out;exact ⟨m / 10,_,by omega,Num.zzu _ _ _ HE,by go_num,by rw[ByteArray.mk_append_mk];rfl,HE,hbl.alloc (by have:=hbl.size;omega) _⟩
   case measure=>simp[intOf];omega
end Mark
namespace Strs
open Go.RowKit
def marks (k:Nat):Nat->List ByteArray
 | 0=>[]
 | n+1=>marks k n++[Mark.mark ((k+n:Nat):Int)]
theorem zdd (k n:Nat):(marks k n).length=n:=by
 induction n with
 | zero=>rfl
 | succ n ih=>simp[marks,ih]
theorem zzi (k n:Nat):∀ j,j<n->(marks k n).getD j ByteArray.empty=Mark.mark ((k+j:Nat):Int):=by
 induction n with
 | zero=>intro j h;omega
 | succ n ih=>
  intro j h;have hl:=zdd k n;by_cases hj:j<n
  ·rw[<-ih j hj,marks,List.getD,List.getD,List.getElem?_append_left (by omega)]
  ·have:j=n:=by omega
   subst this;rw[marks,List.getD,List.getElem?_append_right (by omega),hl];simp
theorem zvg (k i:Nat) (xs:List ByteArray) (h:i<xs.length):(marks k i++xs.drop i).set i (Mark.mark ((k+i:Nat):Int))=marks k (i+1)++xs.drop (i+1):=by have hl:=zdd k i;rw[List.set_append_right _ _ (by omega),hl,Nat.sub_self,List.drop_eq_getElem_cons h,List.set_cons_zero,marks,List.append_assoc];rfl
theorem zy8 (b off cap n k:Nat) (K:Int) (w:World) (hK:K=k) (hk:0<k) (hkn:k+n<=4611686018427387904)
  (hc:∀ j,j<n->w.cell? ⟨b,off+j,none⟩=some (.string (Mark.mark ((k+j:Nat):Int)))):
  Calls Tryz.prog 37 #[.slice (some ⟨b,off,none⟩) n cap,.int .i64 K] w fun e w'=>e=.returned (.int .i64 ((k+n:Nat):Int))/\Below w.heap.size w w':=by
 subst hK;have HC:=zH hc;clear hc;go_enter Tryz.func37,Tryz.ntmps37;go_wp2_with fail
 go_loopw [1,5] (fun q j wr=>∃ i:Nat,i<=n/\j=.int .i64 i/\q=.int .i64 ((k+i:Nat):Int)/\Below w.heap.size w wr) (fun _ j _=>n-(intOf j).toNat)
 case atStart=>exact ⟨0,by omega,rfl,rfl,zB _ _⟩
 case round=>
  obtain ⟨i,hi,rfl,rfl,hbw⟩:=hrel;by_cases hlt:i<n
  ·have hcell:=cell_keep hbw (HC.out i hlt)
   have hpos:(0:Int)<((k+i:Nat):Int):=by omega
   have hsm:((k+i:Nat):Int)<=4611686018427387904:=by omega
   generalize hq:k+i=q at *;have HQ:=zH hq;clear hq;generalize hmk:Mark.mark (q:Int)=mk at *;have HMK:=zH hmk;clear hmk;go_wp2_with fail
   go_region_held3 (fun w'=>w'.cell? ⟨b,off+i,none⟩=some (.string mk)/\Below w.heap.size w w')
    (first|exact ⟨hcell,hbw.drew⟩|exact ⟨cell_keep hb1 (show wr.drew.cell? _=_ from hcell),hbw.drew.trans (hb1.mono hbw.size)⟩|go_keep)
    (first|(go_at_call 83;refine (Mark.zcv (q:Int) _ hpos (by omega)).mono ?_;rintro e w1 ⟨rfl,hb1⟩;rw[HMK.out]))
   all_goals go_wp2_with fail
   go_roundw
   case rel=>exact ⟨i+1,by omega,by go_num,by rw[<-Nat.add_assoc,HQ.out];go_num,hbw.drew.trans (hb1.mono hbw.size)⟩
   case measure=>simp[intOf];omega
  ·have hin:i=n:=by omega
   subst hin;go_wp2_with fail
   go_ret;exact ⟨rfl,hbw⟩
end Strs
namespace Cuts
def cuts (s:ByteArray) (b:Int):Nat->List ByteArray×Nat
 | 0=>([],0)
 | i+1=>if h:i<s.size then (if ((s[i]'h).toNat:Int)=b then ((cuts s b i).1++[s.extract (cuts s b i).2 i],i+1) else cuts s b i) else cuts s b i
theorem zii (s:ByteArray) (b:Int) (i:Nat) (h:i<s.size) (hb:((s[i]'h).toNat:Int)=b):cuts s b (i+1)=((cuts s b i).1++[s.extract (cuts s b i).2 i],i+1):=by rw[cuts,dif_pos h,if_pos hb]
theorem zg5 (s:ByteArray) (b:Int) (i:Nat) (h:i<s.size) (hb:¬((s[i]'h).toNat:Int)=b):cuts s b (i+1)=cuts s b i:=by rw[cuts,dif_pos h,if_neg hb]
theorem zsv (s:ByteArray) (b:Int) (i:Nat):(cuts s b i).2<=i/\(cuts s b i).1.length<=i:=by
 induction i with
 | zero=>exact ⟨Nat.le_refl _,Nat.le_refl _⟩
 | succ i ih=>
  rw[cuts]
  split
  ·split
   ·simp;omega
   ·omega
  ·omega
def parts (s:ByteArray) (b:Int):List ByteArray:=(cuts s b s.size).1++[s.extract (cuts s b s.size).2 s.size]
theorem zg6 (s:ByteArray) (b:Int):1<=(parts s b).length/\(parts s b).length<=s.size+1:=by have:=(zsv s b s.size).2;unfold parts;simp;exact this
end Cuts
namespace ImplSplit
open Go.RowKit
theorem yd1:(Tryz.prog.info? 9).map (fun i=>(i.zero,i.size,i.bytes))=some (some (.string ByteArray.empty),1,16):=by kernel_rfl
def Made (w:World) (xs:List ByteArray) (e:Ending) (w':World):Prop:=
 ∃ v,e=.returned v/\w'.ownsRow w.heap.size 9 1 v xs.length (xs.map Value.string)/\Below w.heap.size w w'
theorem zi9 (s:ByteArray) (b:Int) (w:World) (hs:s.size<=1048576):
  Calls Tryz.prog 178 #[.string s,.int .u8 b] w (Made w (Cuts.parts s b)):=by
 obtain ⟨i0,hi,hz0,hz1,hz2⟩:=info_parts yd1;go_enter Tryz.func178,Tryz.ntmps178;go_wp2_with fail
 go_loopw [5,6,10] (fun v f j wr=>∃ i:Nat,i<=s.size/\j=.int .i64 i/\f=.int .i64 ((Cuts.cuts s b i).2:Nat) /\
   wr.ownsRow w.heap.size 9 1 v (Cuts.cuts s b i).1.length ((Cuts.cuts s b i).1.map Value.string)/\Below w.heap.size w wr)
  (fun _ _ j _=>s.size-(intOf j).toNat)
 case atStart=>exact ⟨0,Nat.zero_le _,rfl,rfl,World.ownsRow_nil _ _ _ _,zB _ _⟩
 case round=>
  obtain ⟨i,hi',rfl,rfl,hown,hbw⟩:=hrel;have hle:=Cuts.zsv s b i;by_cases hlt:i<s.size
  ·by_cases hb:((s[i]'hlt).toNat:Int)=b
   ·have HH:=zH (Cuts.zii s b i hlt hb)
    have hbb:(((s[i]'hlt).toNat:Int)==b)=true:=by simpa using hb
    clear hb;obtain ⟨hf1,hl1⟩:=hle;generalize (Cuts.cuts s b i).2=f at *;generalize (Cuts.cuts s b i).1=xs at *;go_wp2_with (at_builtin;refine wpList_append_own _ rfl _ _ 22 rfl w.heap.size 9 i0 (.string ByteArray.empty) 1 16 Tryz.underlying22 hi hz0 hz1 hz2 rfl (by decide) _ _ _ rfl (hown.alloc _) ⟨wr.heap.size,0,none⟩ 1 1 [.string (s.extract f i)] rfl rfl ?c1 ?c2 ?c3 ?c4 ?c5 ?_)
    case c1=>exact Kit.zes _ _ _
    case c2=>exact Kit.zi5 _
    case c3=>unfold maxLen;omega
    case c4=>omega
    case c5=>have:=hbw.size;simp;omega
    intro v' w1 hown' hgr _;have hb1:=Kit.zh0 (zL _) hbw hown hgr;clear hgr hown;go_wp2_with fail
    go_roundw
    case rel=>exact ⟨i+1,by omega,by go_num,by rw[HH.out];go_num,by rw[HH.out];simpa using hown',hb1⟩
    case measure=>simp[intOf];omega
   ·have HH:=zH (Cuts.zg5 s b i hlt hb)
    have hbb:(((s[i]'hlt).toNat:Int)==b)=false:=by simpa using hb
    clear hb;go_wp2_with fail
    go_roundw
    case rel=>exact ⟨i+1,by omega,by go_num,by rw[HH.out],by rw[HH.out];exact hown,hbw⟩
    case measure=>simp[intOf];omega
  ·have HP:Hid (Cuts.parts s b=(Cuts.cuts s b i).1++[s.extract (Cuts.cuts s b i).2 s.size]):=by
    have:i=s.size:=by omega
    subst this;rfl
   obtain ⟨hf1,hl1⟩:=hle;have hf2:(Cuts.cuts s b i).2<=s.size:=by omega
   generalize (Cuts.cuts s b i).2=f at *;generalize (Cuts.cuts s b i).1=xs at *;go_wp2_with (at_builtin;refine wpList_append_own _ rfl _ _ 22 rfl w.heap.size 9 i0 (.string ByteArray.empty) 1 16 Tryz.underlying22 hi hz0 hz1 hz2 rfl (by decide) _ _ _ rfl (hown.alloc _) ⟨wr.heap.size,0,none⟩ 1 1 [.string (s.extract f s.size)] rfl rfl ?c1 ?c2 ?c3 ?c4 ?c5 ?_)
   case c1=>exact Kit.zes _ _ _
   case c2=>exact Kit.zi5 _
   case c3=>unfold maxLen;omega
   case c4=>omega
   case c5=>have:=hbw.size;simp;omega
   intro v' w1 hown' hgr _;have hb1:=Kit.zh0 (zL _) hbw hown hgr;clear hgr hown;go_wp2_with fail
   go_ret;exact ⟨v',rfl,by rw[HP.out];simpa using hown',hb1⟩
end ImplSplit
end Go.Proofs.YtlmhgeanknhcfaaGreatDoor
namespace Go.Proofs.YtlmhgeanknhcfaaGreatDoor.PMap
open Go.RowKit Go.MapKept
open Strs
def zix (w:World) (a:Addr):Prop:=a.spot=none/\(∃ v,w.cell? a=some v)/\∀ o,w.frozen? ⟨a.block,o,none⟩=false
theorem zix.keep {w w':World} {a:Addr} (h:zix w a) (hb:Below w.heap.size w w'):zix w' a:=by obtain ⟨b,o,s⟩:=a;obtain ⟨h1,⟨v,hv⟩,h3⟩:=h;simp only at h1;subst h1;have hlt:=cell_lt hv;exact ⟨rfl,⟨v,cell_keep hb hv⟩,fun o'=>(hb.frozen (p:=⟨b,o',none⟩) hlt).trans (h3 o')⟩
theorem zyj {w:World} {a:Addr} {v:Value} (h:w.cell? a=some v):∃ e n,w.shape? a.block=some (e,n):=by
 unfold World.cell? at h;unfold World.shape?
 split at h
 ·rename_i c e z hh
  exact ⟨e,c.size,rfl⟩
 ·cases h
theorem same_addr {P:Program} {w:World} {a b:Addr} (ha:zix w a) (hb:zix w b):(sameAddr a b).run P w=.ok (decide (a=b)) w:=by
 obtain ⟨ba,oa,sa⟩:=a;obtain ⟨bb,ob,sb⟩:=b;obtain ⟨ha1,⟨va,hva⟩,ha3⟩:=ha;obtain ⟨hb1,⟨vb,hvb⟩,hb3⟩:=hb;simp only at ha1 hb1 ha3 hb3;subst ha1 hb1;obtain ⟨ea,na,hsa⟩:=zyj hva;obtain ⟨eb,nb,hsb⟩:=zyj hvb;simp only at hsa hsb;by_cases h:ba=bb
 ·subst h
  simp[sameAddr];exact Bool.eq_iff_iff.2 (by simp)
 ·simp[sameAddr,h,ha3,hb3,noView,viewAt,mayBeOne,stringish,hsa,hsb]
theorem z5v {P:Program} {w:World} {t e:TypeId} {i:TypeInfo} (ht:P.underlying t=some (.pointer e)) (hi:P.info? e=some i) (hz:i.size≠0) {a b:Addr} (ha:zix w a) (hb:zix w b) (d:Nat):
  (Op.equalIn (d+1) t (.pointer (some a)) (.pointer (some b))).run P w=.ok (decide (a=b)) w:=by
 simp[Op.equalIn,run_underlying ht,sizeOf,typeInfo,hi,hz,same_addr ha hb]
theorem yc9 {P:Program} {w:World} {K:TypeId} {d:TypeDesc} (hd:P.underlying K=some d) (hnow:∀ a b,Instr.sameNow d a b=none) (k:Value) (es:List MapEntry):
  (Instr.findKey K k es).run P w=(Instr.findAsking K k es).run P w:=by
 have h:Instr.findNow d k es 0=none\/es=[]:=by
  cases es with
  | nil=>exact .inr rfl
  | cons e es=>left;simp[Instr.findNow,hnow]
 rcases h with h|rfl
 ·simp[Instr.findKey,run_underlying hd,h]
 ·simp[Instr.findKey,run_underlying hd,Instr.findNow,Instr.findAsking]
section
variable {κ:Type} [DecidableEq κ] (enc:κ->Value) (dom:κ->Prop)
def zl3 (k:κ):List (κ×Value)->Nat->Option (Nat×Value)
 | [],_=>none
 | e::es,i=>if k=e.1 then some (i,e.2) else zl3 k es (i+1)
def Is (w:World) (B:Nat) (M:κ->Option Value):Prop:=
 ∃ (es:Array MapEntry) (clock:Nat) (l:List (κ×Value)),w.heap[B]?=some (.map es clock)/\es.toList.map (fun e=>(e.key,e.val))=l.map (fun e=>(enc e.1,e.2))/\(∀ e∈l,dom e.1)/\∀ k,M k=(zl3 k l 0).map (·.2)
variable {enc dom}
theorem Is.lt {w:World} {B:Nat} {M:κ->Option Value} (h:Is enc dom w B M):B<w.heap.size:=by obtain ⟨es,clock,l,hb,_⟩:=h;exact (Array.getElem?_eq_some_iff.1 hb).1
theorem Is.kept {w w':World} {B:Nat} {M:κ->Option Value} (h:Is enc dom w B M) (hk:w'.heap[B]?=w.heap[B]?):Is enc dom w' B M:=by obtain ⟨es,clock,l,hb,h2,h3,h4⟩:=h;exact ⟨es,clock,l,hk.trans hb,h2,h3,h4⟩
theorem Is.step {w w':World} {B:Nat} {M:κ->Option Value} (h:Is enc dom w B M) (hb:Below w.heap.size w w'):Is enc dom w' B M:=h.kept (hb.block B h.lt)
theorem ydd (w:World):Is enc dom (w.alloc (.map #[] 0)) w.heap.size (fun _=>none):=
 ⟨#[],0,[],(MapKept.heap_alloc w _).1,rfl,by simp,fun k=>rfl⟩
theorem zjv (k:κ):∀ (l:List (κ×Value)) (i j:Nat),zl3 k l (i+j)=(zl3 k l i).map fun x=>(x.1+j,x.2)
 | [],_,_=>rfl
 | e::es,i,j=>by
  unfold zl3
  split
  ·rfl
  ·rw[show i+j+1=(i+1)+j by omega];exact zjv k es (i+1) j
theorem zo0 (k:κ):∀ (l:List (κ×Value)) (i j:Nat) (v:Value),zl3 k l i=some (j,v)->∃ q,j=i+q/\∃ h:q<l.length,l[q]=(k,v)
 | [],_,_,_,h=>by cases h
 | e::es,i,j,v,h=>by
  unfold zl3 at h
  split at h
  ·rename_i he
   cases h;exact ⟨0,rfl,by simp,by simp[he]⟩
  ·obtain ⟨q,rfl,hq,hv⟩:=zo0 k es (i+1) j v h
   exact ⟨q+1,by omega,by simp;omega,by simpa using hv⟩
variable {P:Program} {w:World} {K E t:TypeId} {d:TypeDesc}
theorem asks (heq:∀ k k',dom k->dom k'->(Op.equal K (enc k) (enc k')).run P w=.ok (decide (k=k')) w) {k:κ} (hk:dom k):∀ (es:List MapEntry) (l:List (κ×Value)) (i:Nat),es.map (fun e=>(e.key,e.val))=l.map (fun e=>(enc e.1,e.2))->(∀ e∈l,dom e.1) ->
  (Instr.findAsking K (enc k) es i).run P w=.ok (zl3 k l i) w
 | [],[],_,_,_=>by simp[Instr.findAsking,zl3]
 | [],_::_,_,h,_=>by simp at h
 | _::_,[],_,h,_=>by simp at h
 | e::es,x::l,i,h,hd=>by
  simp only[List.map_cons,List.cons.injEq,Prod.mk.injEq] at h;obtain ⟨⟨h1,h2⟩,h3⟩:=h;have hx:=heq k x.1 hk (hd x (by simp));have ih:=asks heq hk es l (i+1) h3 (fun y hy=>hd y (by simp[hy]))
  unfold zl3;by_cases hkx:k=x.1
  ·subst hkx
   simp[Instr.findAsking,h1,hx,h2]
  ·simp[Instr.findAsking,h1,hx,hkx,ih]
structure Law (P:Program) (enc:κ->Value) (dom:κ->Prop) (t K E:TypeId) (z:Value) (w:World):Prop where
 map:P.underlying t=some (.map K E)
 now:∃ d,P.underlying K=some d/\∀ a b,Instr.sameNow d a b=none
 check:∀ em k,dom k->(Instr.checkKey em 10000 K (enc k)).run P w=.ok () w
 eq:∀ k k',dom k->dom k'->(Op.equal K (enc k) (enc k')).run P w=.ok (decide (k=k')) w
 stays:∀ k,dom k->(Instr.keyThatStays (enc k) (enc k)).run P w=.ok (enc k) w
 zero:(zeroValue E).run P w=.ok z w
theorem Law.find {z:Value} (L:Law P enc dom t K E z w) {k:κ} (hk:dom k) {es:List MapEntry} {l:List (κ×Value)} (h:es.map (fun e=>(e.key,e.val))=l.map (fun e=>(enc e.1,e.2))) (hd:∀ e∈l,dom e.1):
  (Instr.findKey K (enc k) es).run P w=.ok (zl3 k l 0) w:=by
 obtain ⟨d,h1,h2⟩:=L.now;rw[yc9 h1 h2,asks L.eq hk es l 0 h hd]
theorem Is.look {z:Value} {B:Nat} {M:κ->Option Value} (h:Is enc dom w B M) (L:Law P enc dom t K E z w) {k:κ} (hk:dom k) (c:Bool):
  (Instr.lookup t (.map (some B)) (enc k) c).run P w=.ok (if c then .tuple #[(M k).getD z,.bool (M k).isSome] else (M k).getD z) w:=by
 obtain ⟨es,clock,l,hb,h2,h3,h4⟩:=h;have hf:=L.find hk h2 h3;rw[h4 k];cases hs:zl3 k l 0 with
 | none=>rw[hs] at hf;simp[Instr.lookup,run_underlying L.map,MapKept.run_getObj_map hb,L.check _ k hk,hf,L.zero]
 | some x=>obtain ⟨i,v⟩:=x;rw[hs] at hf;simp[Instr.lookup,run_underlying L.map,MapKept.run_getObj_map hb,L.check _ k hk,hf]
theorem zpu (k k':κ) (v:Value):∀ (l:List (κ×Value)) (i:Nat),zl3 k l i=none->(zl3 k' (l++[(k,v)]) i).map (·.2)=if k'=k then some v else (zl3 k' l i).map (·.2)
 | [],i,_=>by by_cases h:k'=k<;>simp[zl3,h]
 | e::es,i,h=>by
  have h':k≠e.1/\zl3 k es (i+1)=none:=by
   unfold zl3 at h
   split at h
   ·cases h
   ·rename_i hne;exact ⟨hne,h⟩
  have ih:=zpu k k' v es (i+1) h'.2;simp only[List.cons_append,zl3];by_cases h1:k'=e.1
  ·have h2:¬e.1=k:=fun x=>h'.1 x.symm
   simp[h1,h2]
  ·simp only[h1,if_false]
   exact ih
theorem zx6 (k k':κ) (v:Value):∀ (l:List (κ×Value)) (q:Nat),(∀ i,∃ u,zl3 k l i=some (i+q,u))->(∀ i,(zl3 k' (l.set q (k,v)) i).map (·.2)=if k'=k then some v else (zl3 k' l i).map (·.2))
 | [],q,h,_=>by obtain ⟨u,h⟩:=h 0;cases h
 | e::es,0,h,i=>by
  obtain ⟨u,h⟩:=h 0
  have hk:k=e.1:=by
   unfold zl3 at h
   split at h
   ·assumption
   ·obtain ⟨j,h1,_⟩:=zo0 k es (0+1) _ _ h
    omega
  simp only[List.set_cons_zero,zl3];by_cases h1:k'=k
  ·simp[h1]
  ·simp[h1,<-hk]
 | e::es,q+1,h,i=>by
  have hk:¬k=e.1:=by intro hk;obtain ⟨u,h⟩:=h 0;simp[zl3,hk] at h
  have ih:=zx6 k k' v es q (fun i=>by
   obtain ⟨u,h⟩:=h 0;simp only[zl3,hk,if_false] at h;have:=zjv k es 0 1;rw[h] at this;cases h0:zl3 k es 0 with
   | none=>rw[h0] at this;cases this
   | some x=>obtain ⟨j,y⟩:=x;rw[h0] at this;simp at this;refine ⟨y,?_⟩;have h5:=zjv k es 0 i;rw[h0] at h5;simp at h5;rw[h5];simp;omega) (i+1)
  simp only[List.set_cons_succ,zl3];by_cases h1:k'=e.1
  ·have h2:¬e.1=k:=fun x=>hk x.symm
   simp[h1,h2]
  ·simp only[h1,if_false]
   exact ih
theorem Is.store {z:Value} {B:Nat} {M:κ->Option Value} (h:Is enc dom w B M) (L:Law P enc dom t K E z w) {k:κ} (hk:dom k) (v:Value):
  ∃ w',(Instr.mapUpdate t (.map (some B)) (enc k) v).run P w=.ok () w'/\Is enc dom w' B (fun k'=>if k'=k then some v else M k')/\w.grownBy w' (some B):=by
 obtain ⟨es,clock,l,hb,h2,h3,h4⟩:=h;have hf:=L.find hk h2 h3
 have grow:∀ o,w.grownBy (ChangeMaps.setBlock w B o) (some B):=fun o=>⟨rfl,rfl,rfl,by simp[ChangeMaps.setBlock],fun i _ hi=>ChangeMaps.heap_setBlock_other hb _ (fun e=>hi (by rw[e]))⟩
 cases hs:zl3 k l 0 with
 | none=>
  rw[hs] at hf;refine ⟨ChangeMaps.setBlock w B (.map (es.push ⟨enc k,v,clock⟩) (clock+1)),?_,⟨_,_,l++[(k,v)],ChangeMaps.heap_setBlock_same hb _,by simp[h2],?_,?_⟩,grow _⟩
  ·simp[Instr.mapUpdate,run_underlying L.map,MapKept.run_getObj_map hb,L.check _ k hk,hf,MapKept.run_setObj_map _ hb,ChangeMaps.setBlock]
  ·intro e he
   rcases List.mem_append.1 he with he|he
   ·exact h3 e he
   ·simp at he;subst he;exact hk
  ·intro k'
   rw[zpu k k' v l 0 hs,<-h4 k']
 | some x=>
  obtain ⟨j,u⟩:=x;rw[hs] at hf;obtain ⟨q,hq,hql,hqv⟩:=zo0 k l 0 j u hs;obtain rfl:j=q:=by omega
  have hlen:es.toList.length=l.length:=by simpa using congrArg List.length h2
  have hjs:j<es.size:=by simpa [<-hlen] using hql
  have hkey:es[j].key=enc k:=by
   have h5:=congrArg (fun l=>l[j]?) h2
   simp[hql,hqv,hjs] at h5;exact h5.1
  refine ⟨ChangeMaps.setBlock w B (.map (es.modify j fun e=>{ e with key:=enc k,val:=v }) clock),?_,⟨_,_,l.set j (k,v),ChangeMaps.heap_setBlock_same hb _,?_,?_,?_⟩,grow _⟩
  ·simp[Instr.mapUpdate,run_underlying L.map,MapKept.run_getObj_map hb,L.check _ k hk,hf,hjs,hkey,L.stays k hk,MapKept.run_setObj_map _ hb,ChangeMaps.setBlock]
  ·apply List.ext_getElem?
   intro i;have h5:=congrArg (fun l=>l[i]?) h2
   simp at h5;by_cases hij:i=j
   ·subst hij
    simp[hjs,hql]
   ·have hji:¬j=i:=fun x=>hij x.symm
    simp[hji,h5]
  ·intro e he
   rcases List.mem_or_eq_of_mem_set he with he|he
   ·exact h3 e he
   ·subst he;exact hk
  ·intro k'
   rw[zx6 k k' v l j (fun i=>⟨u,?_⟩) 0,<-h4 k']
   have h5:=zjv k l 0 i;rw[hs] at h5;simp only[Nat.zero_add,Option.map_some] at h5;rw[h5,Nat.add_comm]
end
end Go.Proofs.YtlmhgeanknhcfaaGreatDoor.PMap
