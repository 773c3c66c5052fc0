/-
  Short names of three laws that stand everywhere. Kit At Cuts Num Read JoinMath Round ImplSplit
-/
import Derived.ProofKit
import Derived.Test.YtbigfeblomfflaaGreatDoorRows
import Derived.WalkSpells
import Derived.Lib.Hide
import Derived.BigQuiet
import Derived.WalkSmall
import Derived.Lib.Join
set_option maxHeartbeats 1000000
namespace Go.Proofs.YtbigfeblomfflaaGreatDoor
open Go.RowKit
theorem zH {p : Prop} (h : p) : Hid p := Lib.hid h
theorem zL (n : Nat) : n ≤ n := Nat.le_refl n
theorem zB (B : Nat) (w : World) : Below B w w := Below.refl B w
end Go.Proofs.YtbigfeblomfflaaGreatDoor
namespace Go.Proofs.YtbigfeblomfflaaGreatDoor
namespace Kit
open Go.RowKit
theorem conv_own (w:World) (base g c cap:Nat) (l:List UInt8) (hl:l.length=c) (h:w.ownsRow base 5 1 (.slice (some ⟨g,0,none⟩) c cap) c (l.map (fun b=>Value.int .u8 b.toNat))):
  (convert 22 9 (.slice (some ⟨g,0,none⟩) c cap)).run Tryz.prog w=.ok (.string ⟨l.toArray⟩) w:=by
 subst hl;refine run_convert_bytes_back w 22 9 5 ⟨g,0,none⟩ cap l Tryz.underlying22 Tryz.underlying5 Tryz.underlying9 (fun j hj=>?_)
 have:=h.cellAt j (by omega);have e:(⟨g,0,none⟩:Addr).add j=⟨g,j,none⟩:=by unfold Addr.add;split<;>simp_all
 rw[e]
 simpa [hj] using this
theorem app_below {w wr w':World} {base:Nat} {e:TypeId} {o:Obj} {v:Value} {n:Nat} {xs:List Value} (hb:base<=w.heap.size) (h:Below base w wr) (hown:wr.ownsRow base e 1 v n xs) (hg:(wr.alloc o).grownBy w' v.ownBlock):Below base w w':=by have h1:base<=wr.heap.size:=Nat.le_trans hb h.size;exact (h.alloc h1 o).grown hg (by simp;omega) (fun k hk=>(hown.lt k hk).1)
theorem one_cells (w:World) (v:Value) (t:TypeId):∀ (j:Nat) (u:Value),[v][j]?=some u->(w.alloc (.cells #[v] t)).cell? ((⟨w.heap.size,0,none⟩:Addr).add j)=some u:=by
 intro j u hj
 match j,hj with
 | 0,hj=>simp at hj;subst hj;simp[Addr.add]
theorem one_str (s:ByteArray):∀ u:Value,u∈[Value.string s]->u.oneCell'=true:=by intro u hu;simp at hu;subst hu;rfl
theorem conv_row (w:World) (base:Nat) (v:Value) (l:List UInt8) (h:w.ownsRow base 5 1 v l.length (l.map (fun b=>Value.int .u8 b.toNat))):
  (convert 22 9 v).run Tryz.prog w=.ok (.string ⟨l.toArray⟩) w:=by
 have h':=h;obtain ⟨_,⟨rfl,hn⟩|⟨g,cap,cur,rfl,_⟩⟩:=h
 ·have:l=[]:=List.eq_nil_of_length_eq_zero hn
  subst this;exact run_convert_bytes_nil w 22 5 Tryz.underlying22 Tryz.underlying5 0 0 9 Tryz.underlying9
 ·exact conv_own w base g l.length cap l rfl h'
theorem zax {w:World} {base:Nat} {e:TypeId} {size:Nat} {v:Value} {n:Nat} {xs:List Value} (h:w.ownsRow base e size v n xs):∃ a c,v=.slice a n c:=by
 obtain ⟨_,⟨rfl,hn⟩|⟨g,cap,cur,rfl,_⟩⟩:=h
 ·exact ⟨none,0,by rw[hn]⟩
 ·exact ⟨_,cap,rfl⟩
def IsRow (k:IntKind) (w:World) (a:Option Addr) (len cap:Nat) (zs:List Int):Prop:=
 (a=none/\len=0/\cap=0/\zs=[]) \/
 ∃ x,a=some x/\len<=cap/\cap<=maxLen/\zs.length=cap/\(∀ i,i<zs.length->w.cell? (x.add i)=some (.int k (zs.getD i 0)))/\∀ n∈zs,(Lit.int k n).wf=true
theorem one_byte (c:Int):∀ u:Value,u∈[Value.int .u8 c]->u.oneCell'=true:=by intro u hu;simp at hu;subst hu;rfl
end Kit
namespace Strs
open Go.RowKit
def At (w:World) (v:Value) (xs:List ByteArray):Prop:=
 ∃ a cap,v=.slice a xs.length cap/\xs.length<=maxLen/\(0<xs.length->∃ b off,a=some ⟨b,off,none⟩/\∀ j,j<xs.length->w.cell? ⟨b,off+j,none⟩=some (.string (xs.getD j ByteArray.empty)))
theorem at_own {w:World} {base:Nat} {v:Value} {xs:List ByteArray} (h:w.ownsRow base 9 1 v xs.length (xs.map Value.string)):At w v xs:=by
 have h':=h;obtain ⟨_,⟨rfl,hn⟩|⟨g,cap,cur,rfl,_,hg,hnc,hcm,_,_⟩⟩:=h
 ·exact ⟨none,0,by rw[hn],by unfold maxLen;omega,fun hp=>by omega⟩
 ·refine ⟨_,cap,rfl,by omega,fun hp=>⟨g,0,rfl,fun j hj=>?_⟩⟩
  rw[Nat.zero_add,h'.cellAt j (by omega)];simp[hj,List.getD]
theorem cell_lt {w:World} {a:Addr} {v:Value} (h:w.cell? a=some v):a.block<w.heap.size:=by
 rcases Nat.lt_or_ge a.block w.heap.size with h1|h1
 ·exact h1
 ·have h2:w.heap[a.block]?=none:=by rw[Array.getElem?_eq_none_iff];exact h1
  simp[World.cell?,h2] at h
theorem cell_keep {w w':World} {b o:Nat} {v:Value} (hb:Below w.heap.size w w') (h:w.cell? ⟨b,o,none⟩=some v):w'.cell? ⟨b,o,none⟩=some v:=by rw[hb.cell (p:=⟨b,o,none⟩) (cell_lt h)];exact h
theorem own_keep {w w':World} {base:Nat} {e:TypeId} {size:Nat} {v:Value} {n:Nat} {xs:List Value} (h:w.ownsRow base e size v n xs) (hb:Below w.heap.size w w'):w'.ownsRow base e size v n xs:=by
 have hlt:=h.lt;refine ⟨h.1,?_⟩;rcases h.2 with hn|⟨g,cap,cur,rfl,hbg,hgg,rest⟩
 ·exact .inl hn
 ·exact .inr ⟨g,cap,cur,rfl,hbg,by rw[hb.block g (hlt g rfl).2];exact hgg,rest⟩
theorem At.keep {w w':World} {v:Value} {xs:List ByteArray} (h:At w v xs) (hb:Below w.heap.size w w'):At w' v xs:=by
 obtain ⟨a,cap,rfl,hm,hc⟩:=h;refine ⟨a,cap,rfl,hm,fun hp=>?_⟩
 obtain ⟨b,off,rfl,hd⟩:=hc hp;exact ⟨b,off,rfl,fun j hj=>cell_keep hb (hd j hj)⟩
end Strs
namespace Cuts
def cuts (s:ByteArray) (b:Int):Nat->List ByteArray×Nat
 | 0=>([],0)
 | i+1=>if h:i<s.size then (if ((s[i]'h).toNat:Int)=b then ((cuts s b i).1++[s.extract (cuts s b i).2 i],i+1) else cuts s b i) else cuts s b i
theorem cuts_hit (s:ByteArray) (b:Int) (i:Nat) (h:i<s.size) (hb:((s[i]'h).toNat:Int)=b):cuts s b (i+1)=((cuts s b i).1++[s.extract (cuts s b i).2 i],i+1):=by rw[cuts,dif_pos h,if_pos hb]
theorem cuts_miss (s:ByteArray) (b:Int) (i:Nat) (h:i<s.size) (hb:¬((s[i]'h).toNat:Int)=b):cuts s b (i+1)=cuts s b i:=by rw[cuts,dif_pos h,if_neg hb]
theorem cuts_le (s:ByteArray) (b:Int) (i:Nat):(cuts s b i).2<=i/\(cuts s b i).1.length<=i:=by
 induction i with
 | zero=>exact ⟨Nat.le_refl _,Nat.le_refl _⟩
 | succ i ih=>
  rw[cuts]
  split
  ·split
   ·simp;omega
   ·omega
  ·omega
def parts (s:ByteArray) (b:Int):List ByteArray:=(cuts s b s.size).1++[s.extract (cuts s b s.size).2 s.size]
theorem parts_len (s:ByteArray) (b:Int):1<=(parts s b).length/\(parts s b).length<=s.size+1:=by have:=(cuts_le s b s.size).2;unfold parts;simp;exact this
end Cuts
namespace Num
def dec:Nat->Nat->List UInt8
 | 0,_=>[]
 | f+1,n=>if n=0 then [] else dec f (n / 10)++[48+UInt8.ofNat (n % 10)]
theorem dec_zero (f:Nat):dec f 0=[]:=by cases f<;>simp[dec]
theorem dec_fuel (f:Nat):∀ n,n<10 ^ f->dec (f+1) n=dec f n:=by
 induction f with
 | zero=>
  intro n h;have:n=0:=by omega
  subst this;simp[dec]
 | succ f ih=>
  intro n h;rw[dec,dec.eq_2 n f];have:n / 10<10 ^ f:=by rw[Nat.pow_succ] at h;omega
  rw[ih _ this]
def decN (n:Nat):List UInt8:=dec 20 n
theorem decN_zero:decN 0=[]:=dec_zero _
theorem decN_step (n:Nat) (h:0<n) (hb:n<=18446744073709551615):decN n=decN (n / 10)++[48+UInt8.ofNat (n % 10)]:=by unfold decN;rw[dec.eq_2 n 19,if_neg (by omega),dec_fuel 19 (n / 10) (by omega)]
theorem dec_ne (f n:Nat) (h:0<n):dec (f+1) n≠[]:=by rw[dec,if_neg (by omega)];simp
def intText (z:Int):List UInt8:=if z=0 then [48] else if z<0 then 45::decN z.natAbs else decN z.natAbs
theorem dec_len (f:Nat):∀ n,(dec f n).length<=f:=by
 induction f with
 | zero=>intro n;simp[dec]
 | succ f ih=>
  intro n;rw[dec];split
  ·simp
  ·have:=ih (n / 10);simp;omega
theorem decN_len (n:Nat):(decN n).length<=20:=dec_len _ _
def natText (n:Nat):List UInt8:=if n=0 then [48] else decN n
theorem intText_nat (n:Int):intText n=if n<0 then 45::natText n.natAbs else natText n.natAbs:=by
 unfold intText natText;by_cases h:n=0
 ·subst h;rfl
 ·rw[if_neg h];simp only[show ¬n.natAbs=0 by omega,if_false]
theorem natText_small (n:Nat) (h:n<10):natText n=[48+UInt8.ofNat n]:=by
 unfold natText
 split
 ·next h=>subst h;rfl
 ·rw[decN_step n (by omega) (by omega),show n / 10=0 by omega,decN_zero,show n % 10=n by omega];rfl
theorem natText_step (n:Nat) (h:¬n<10) (hb:n<=18446744073709551615):natText n=natText (n / 10)++[48+UInt8.ofNat (n % 10)]:=by unfold natText;rw[if_neg (by omega),if_neg (by omega),decN_step n (by omega) hb]
def cnt (n:Nat):Nat:=if n=0 then 1 else (decN n).length
theorem cnt_le (n:Nat):cnt n<=20:=by unfold cnt;have:=decN_len n;split<;>omega
theorem cnt_pos (n:Nat):1<=cnt n:=by
 unfold cnt
 split
 ·omega
 ·have h:=dec_ne 19 n (by omega)
  have:=List.length_pos_iff.2 h;exact this
theorem cnt_small (n:Nat) (h:n<10):cnt n=1:=by
 unfold cnt
 split
 ·rfl
 ·rw[decN_step n (by omega) (by omega),show n / 10=0 by omega,decN_zero];rfl
theorem cnt_step (n:Nat) (h:¬n<10) (hb:n<=18446744073709551615):cnt n=cnt (n / 10)+1:=by unfold cnt;rw[if_neg (by omega),if_neg (by omega),decN_step n (by omega) hb];simp
theorem natText_len (n:Nat):(natText n).length=cnt n:=by unfold natText cnt;split<;>rfl
theorem digit_toNat (d:Nat) (h:d<10):((48:UInt8)+UInt8.ofNat d).toNat=48+d:=by
 rw[UInt8.toNat_add,UInt8.toNat_ofNat_of_lt' (by show d<256;omega)];show (48+d) % 256=48+d
 omega
theorem natText_at (k:Nat):∀ n,n<=18446744073709551615->k<cnt n->(natText n).getD (cnt n-1-k) 0=48+UInt8.ofNat (n / 10 ^ k % 10):=by
 induction k with
 | zero=>
  intro n hb hk;by_cases h:n<10
  ·rw[natText_small n h,cnt_small n h];simp[Nat.mod_eq_of_lt h]
  ·have hl:=natText_len (n / 10)
   rw[natText_step n h hb,cnt_step n h hb];simp[List.getD,<-hl]
 | succ k ih=>
  intro n hb hk;by_cases h:n<10
  ·rw[cnt_small n h] at hk;omega
  ·have hl:=natText_len (n / 10)
   rw[cnt_step n h hb] at hk ⊢;have:=ih (n / 10) (by omega) (by omega);rw[natText_step n h hb,Nat.pow_succ,Nat.mul_comm,<-Nat.div_div_eq_div_mul,<-this];have e:cnt (n / 10)+1-1-(k+1)=cnt (n / 10)-1-k:=by omega
   rw[e,List.getD,List.getD,List.getElem?_append_left (by omega)]
def Laid (t:List UInt8) (c k:Nat) (buf:List Int):Prop:=buf.length=c/\∀ j,c-k<=j->j<c->buf.getD j 0=((t.getD j 0).toNat:Int)
theorem laid_start (t:List UInt8) (c:Nat):Laid t c 0 (List.replicate c 0):=⟨by simp,fun j h1 h2=>by omega⟩
theorem laid_step (n c k m:Nat) (buf:List Int) (hc:cnt n=c) (hn:n<=18446744073709551615) (hk:k<c) (hm:m=n / 10 ^ k) (h:Laid (natText n) c k buf):
  Laid (natText n) c (k+1) (buf.set (c-1-k) (48+(m:Int) % 10)):=by
 refine ⟨by simp[h.1],fun j h1 h2=>?_⟩
 have h1':=h.1;by_cases hj:j=c-1-k
 ·subst hj
  have:=natText_at k n hn (by omega);rw[hc,<-hm] at this;rw[this,digit_toNat _ (by omega)];simp[List.getD,h1',show c-1-k<c by omega]
 ·rw[<-h.2 j (by omega) h2]
  simp[List.getD,show ¬c-1-k=j by omega]
theorem laid_end (t:List UInt8) (c:Nat) (buf:List Int) (ht:t.length=c) (h:Laid t c c buf):buf=t.map (fun b=>(b.toNat:Int)):=by
 apply List.ext_getElem
 ·simp[h.1,ht]
 ·intro j h1 h2
  have h3:=h.2 j (by omega) (by rw[<-h.1];exact h1);have h4:j<t.length:=by simpa using h2
  simpa [List.getD,h1,h4] using h3
end Num
namespace Num
def dig (c : UInt8) : Bool := decide (48 <= c.toNat) && decide (c.toNat <= 57)
theorem dig_iff (c : UInt8) : dig c = true ↔ 48 <= c.toNat /\ c.toNat <= 57 := by simp [dig]
def val (l : List UInt8) : Nat := l.foldl (fun a c => 10 * a + (c.toNat - 48)) 0
theorem val_nil : val [] = 0 := rfl
theorem val_snoc (l : List UInt8) (c : UInt8) : val (l ++ [c]) = 10 * val l + (c.toNat - 48) := by simp [val]
theorem cnt_of_lt (k : Nat) : ∀ n, n <= 18446744073709551615 -> n < 10 ^ (k + 1) -> cnt n <= k + 1 := by
  induction k with
  | zero => intro n _ h; rw [cnt_small n (by omega)]; omega
  | succ k ih =>
    intro n hb h
    by_cases hs : n < 10
    · rw [cnt_small n hs]; omega
    · rw [cnt_step n hs hb]
      have := ih (n / 10) (by omega) (by rw [Nat.pow_succ] at h; omega)
      omega
end Num
namespace JoinMath
def at_ (xs : List ByteArray) (i : Nat) : ByteArray := xs.getD i ByteArray.empty
def acc (xs : List ByteArray) (sep : ByteArray) : Nat -> List UInt8
  | 0 => []
  | i + 1 => if i = 0 then (at_ xs 0).data.toList else acc xs sep i ++ sep.data.toList ++ (at_ xs i).data.toList
theorem acc_more (xs : List ByteArray) (sep : ByteArray) (i : Nat) (h : 0 < i) : acc xs sep (i + 1) = acc xs sep i ++ sep.data.toList ++ (at_ xs i).data.toList := by
  rw [acc, if_neg (by omega)]
end JoinMath
namespace Num
theorem byte48 (d : Nat) (h : d < 10) : dig (48 + UInt8.ofNat d) = true /\ ((48 : UInt8) + UInt8.ofNat d).toNat - 48 = d := by
  have := digit_toNat d h
  exact ⟨(dig_iff _).2 (by omega), by omega⟩
theorem natText_reads (n : Nat) (hb : n <= 18446744073709551615) : (natText n).all dig = true /\ natText n ≠ [] /\ val (natText n) = n := by
  induction n using Nat.strongRecOn with
  | ind n ih =>
    by_cases h : n < 10
    · have h1 := byte48 n h
      rw [natText_small n h]
      refine ⟨by simp [h1.1], by simp, ?_⟩
      have := val_snoc [] (48 + UInt8.ofNat n)
      rw [val_nil, List.nil_append] at this
      rw [this]; omega
    · have h1 := byte48 (n % 10) (by omega)
      have h2 := ih (n / 10) (by omega) (by omega)
      rw [natText_step n h hb]
      refine ⟨by rw [List.all_append, h2.1]; simp [h1.1], by simp, ?_⟩
      rw [val_snoc, h2.2.2]; omega
end Num
namespace Cuts
open JoinMath
def flat (b : UInt8) (xs : List ByteArray) : List UInt8 := (xs.map fun x => x.data.toList ++ [b]).flatten
theorem flat_snoc (b : UInt8) (xs : List ByteArray) (y : ByteArray) : flat b (xs ++ [y]) = flat b xs ++ y.data.toList ++ [b] := by simp [flat]
theorem ext_list (s : ByteArray) (a b : Nat) : (s.extract a b).data.toList = (s.data.toList.take b).drop a := by
  rw [ByteArray.data_extract, Array.toList_extract, List.extract_eq_take_drop, List.drop_take]
theorem take_more (l : List UInt8) (f i : Nat) (h : f <= i) : l.take f ++ (l.take i).drop f = l.take i := by
  have := List.take_append_drop f (l.take i)
  rw [List.take_take, Nat.min_eq_left h] at this
  exact this
theorem flat_cuts (s : ByteArray) (b : Int) (i : Nat) : flat (UInt8.ofNat b.toNat) (cuts s b i).1 = s.data.toList.take (cuts s b i).2 := by
  induction i with
  | zero => rfl
  | succ i ih =>
    by_cases h : i < s.size
    · by_cases hb : ((s[i]'h).toNat : Int) = b
      · rw [cuts_hit s b i h hb]
        have h' : i < s.data.toList.length := by rw [Array.length_toList]; exact h
        have e : UInt8.ofNat b.toNat = s.data.toList[i]'h' := by
          rw [<- hb, Int.toNat_natCast, UInt8.ofNat_toNat]; rfl
        simp only
        rw [flat_snoc, ih, ext_list, take_more _ _ _ (cuts_le s b i).1, List.take_succ_eq_append_getElem h', <- e]
      · rw [cuts_miss s b i h hb]; exact ih
    · have : cuts s b (i + 1) = cuts s b i := by rw [cuts, dif_neg h]
      rw [this]; exact ih
theorem acc_flat (ys : List ByteArray) (b : UInt8) (k : Nat) (hk : k < ys.length) : acc ys ⟨#[b]⟩ (k + 1) = flat b (ys.take k) ++ (at_ ys k).data.toList := by
  induction k with
  | zero => rfl
  | succ k ih =>
    have e : at_ ys k = ys[k] := by simp [at_, List.getD, show k < ys.length by omega]
    rw [acc_more _ _ _ (by omega), ih (by omega), List.take_succ_eq_append_getElem (by omega), flat_snoc, e]
theorem acc_parts (s : ByteArray) (b : Int) : acc (parts s b) ⟨#[UInt8.ofNat b.toNat]⟩ (parts s b).length = s.data.toList := by
  have hl : (parts s b).length = (cuts s b s.size).1.length + 1 := by simp [parts]
  rw [hl, acc_flat _ _ _ (by omega)]
  have e1 : (parts s b).take (cuts s b s.size).1.length = (cuts s b s.size).1 := by rw [parts, List.take_left]
  have e2 : at_ (parts s b) (cuts s b s.size).1.length = s.extract (cuts s b s.size).2 s.size := by simp [at_, List.getD, parts]
  have hsz : s.data.toList.take s.size = s.data.toList := List.take_of_length_le (by rw [Array.length_toList]; exact zL _)
  rw [e1, e2, flat_cuts, ext_list, take_more _ _ _ (cuts_le s b s.size).1, hsz]
end Cuts
namespace ImplSplit
open Go.RowKit
theorem info9:(Tryz.prog.info? 9).map (fun i=>(i.zero,i.size,i.bytes))=some (some (.string ByteArray.empty),1,16):=by kernel_rfl
def Made (w:World) (xs:List ByteArray) (e:Ending) (w':World):Prop:=
 ∃ v,e=.returned v/\w'.ownsRow w.heap.size 9 1 v xs.length (xs.map Value.string)/\Below w.heap.size w w'
theorem split_any (s:ByteArray) (b:Int) (w:World) (hs:s.size<=1048576):
  Calls Tryz.prog 218 #[.string s,.int .u8 b] w (Made w (Cuts.parts s b)):=by
 obtain ⟨i0,hi,hz0,hz1,hz2⟩:=info_parts info9;go_enter Tryz.func218,Tryz.ntmps218;go_wp2_with fail
 go_loopw [5,6,10] (fun v f j wr=>∃ i:Nat,i<=s.size/\j=.int .i64 i/\f=.int .i64 ((Cuts.cuts s b i).2:Nat) /\
   wr.ownsRow w.heap.size 9 1 v (Cuts.cuts s b i).1.length ((Cuts.cuts s b i).1.map Value.string)/\Below w.heap.size w wr)
  (fun _ _ j _=>s.size-(intOf j).toNat)
 case atStart=>exact ⟨0,Nat.zero_le _,rfl,rfl,World.ownsRow_nil _ _ _ _,zB _ _⟩
 case round=>
  obtain ⟨i,hi',rfl,rfl,hown,hbw⟩:=hrel;have hle:=Cuts.cuts_le s b i;by_cases hlt:i<s.size
  ·by_cases hb:((s[i]'hlt).toNat:Int)=b
   ·have HH:=zH (Cuts.cuts_hit s b i hlt hb)
    have hbb:(((s[i]'hlt).toNat:Int)==b)=true:=by simpa using hb
    clear hb;obtain ⟨hf1,hl1⟩:=hle;generalize (Cuts.cuts s b i).2=f at *;generalize (Cuts.cuts s b i).1=xs at *;go_wp2_with (at_builtin;refine wpList_append_own _ rfl _ _ 24 rfl w.heap.size 9 i0 (.string ByteArray.empty) 1 16 Tryz.underlying24 hi hz0 hz1 hz2 rfl (by decide) _ _ _ rfl (hown.alloc _) ⟨wr.heap.size,0,none⟩ 1 1 [.string (s.extract f i)] rfl rfl ?c1 ?c2 ?c3 ?c4 ?c5 ?_)
    case c1=>exact Kit.one_cells _ _ _
    case c2=>exact Kit.one_str _
    case c3=>unfold maxLen;omega
    case c4=>omega
    case c5=>have:=hbw.size;simp;omega
    intro v' w1 hown' hgr _;have hb1:=Kit.app_below (zL _) hbw hown hgr;clear hgr hown;go_wp2_with fail
    go_roundw
    case rel=>exact ⟨i+1,by omega,by go_num,by rw[HH.out];go_num,by rw[HH.out];simpa using hown',hb1⟩
    case measure=>simp[intOf];omega
   ·have HH:=zH (Cuts.cuts_miss s b i hlt hb)
    have hbb:(((s[i]'hlt).toNat:Int)==b)=false:=by simpa using hb
    clear hb;go_wp2_with fail
    go_roundw
    case rel=>exact ⟨i+1,by omega,by go_num,by rw[HH.out],by rw[HH.out];exact hown,hbw⟩
    case measure=>simp[intOf];omega
  ·have HP:Hid (Cuts.parts s b=(Cuts.cuts s b i).1++[s.extract (Cuts.cuts s b i).2 s.size]):=by
    have:i=s.size:=by omega
    subst this;rfl
   obtain ⟨hf1,hl1⟩:=hle;have hf2:(Cuts.cuts s b i).2<=s.size:=by omega
   generalize (Cuts.cuts s b i).2=f at *;generalize (Cuts.cuts s b i).1=xs at *;go_wp2_with (at_builtin;refine wpList_append_own _ rfl _ _ 24 rfl w.heap.size 9 i0 (.string ByteArray.empty) 1 16 Tryz.underlying24 hi hz0 hz1 hz2 rfl (by decide) _ _ _ rfl (hown.alloc _) ⟨wr.heap.size,0,none⟩ 1 1 [.string (s.extract f s.size)] rfl rfl ?c1 ?c2 ?c3 ?c4 ?c5 ?_)
   case c1=>exact Kit.one_cells _ _ _
   case c2=>exact Kit.one_str _
   case c3=>unfold maxLen;omega
   case c4=>omega
   case c5=>have:=hbw.size;simp;omega
   intro v' w1 hown' hgr _;have hb1:=Kit.app_below (zL _) hbw hown hgr;clear hgr hown;go_wp2_with fail
   go_ret;exact ⟨v',rfl,by rw[HP.out];simpa using hown',hb1⟩
end ImplSplit
end Go.Proofs.YtbigfeblomfflaaGreatDoor
