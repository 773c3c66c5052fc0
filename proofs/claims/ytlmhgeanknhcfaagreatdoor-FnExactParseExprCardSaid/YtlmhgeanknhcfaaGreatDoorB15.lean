/-
  GramW SpecParse SpecParseW
-/
import Derived.Test.YtlmhgeanknhcfaaGreatDoorB7
import Derived.Test.YtlmhgeanknhcfaaGreatDoorB14
import Derived.Test.YtlmhgeanknhcfaaGreatDoorB23
namespace Go.Proofs.YtlmhgeanknhcfaaGreatDoor.Gram
open Tree
def cost:R->Nat
 | []=>0
 | t::r=>t.text.size+1+cost r
theorem zh4 (r:R):cost r=Tok.texts r+r.length:=by
 induction r with
 | nil=>rfl
 | cons t r ih=>rw[cost,Tok.texts,ih,List.length_cons];omega
theorem zez {c:ByteArray} {r:R} (h:mk c r=true):cost r.tail+1<=cost r:=by
 cases r with
 | nil=>cases h
 | cons t r=>rw[cost];simp;omega
theorem zcj {k:Int} {r:R} (h:hd k r=true):cost r.tail+(txt r).size+1=cost r:=by
 cases r with
 | nil=>cases h
 | cons t r=>rw[cost,txt];simp;omega
theorem zhl (r:R):cost r.tail<=cost r:=by
 cases r with
 | nil=>exact zL _
 | cons t r=>rw[cost];simp;try omega
def Light (ex:X):Prop:=∀ r e r1,ex r=some (e,r1)->weight e+1+cost r1<=cost r
theorem zfp (e:E) (s:ByteArray) (L:List E):weight (zec e s L)=s.size+(1+L.length)+(weight e+weights L):=by rw[zec,weight,weights];simp[lens];omega
theorem zhy (s:ByteArray) (L:List E):weight (zis s L)=s.size+L.length+weights L:=by rw[zis,weight];simp[lens];omega
theorem zyp:∀ (r:R) (e:E) (s:Bool),weight (zdn e s r).1+cost (zdn e s r).2.2<=weight e+cost r
 | [],_,_=>zL _
 | t::r,e,s=>by
  rw[zdn]
  split
  ·have h1:=zyp r (zec e t.text []) true
   rw[zfp] at h1;rw[cost];simp[weights] at h1;omega
  ·exact zL _
theorem zur:∀ (r:R) (ps ps':List ByteArray) (r1:R),zcb ps r=some (ps',r1)->ps'.length+lens ps'+cost r1<=ps.length+lens ps+cost r
 | [],ps,ps',r1,h=>by rw[zcb] at h;cases h;exact zL _
 | [t],ps,ps',r1,h=>by
  rw[zcb] at h
  split at h
  ·cases h
  ·cases h;exact zL _
 | t::u::r,ps,ps',r1,h=>by
  rw[zcb] at h
  split at h
  ·split at h
   ·have:=zur r _ _ _ h
    rw[zeg,List.length_append] at this;simp[lens] at this;rw[cost,cost];omega
   ·cases h
  ·cases h;exact zL _
theorem zhq:∀ (r:R) (ts:List ByteArray),(zbx ts r).1.length+lens (zbx ts r).1+cost (zbx ts r).2<=ts.length+lens ts+cost r
 | [],_=>zL _
 | t::r,ts=>by
  rw[zbx]
  split
  ·have:=zhq r (ts++[t.text])
   rw[zeg,List.length_append] at this;simp[lens] at this;rw[cost];omega
  ·exact zL _
theorem zkq {r:R} {ts:List ByteArray} {r1:R} (h:names r=some (ts,r1)):ts.length+lens ts+cost r1<=cost r:=by
 unfold names at h
 split at h
 ·rename_i hb
  have h1:=zhq r.tail [];have h2:=zez hb;simp only at h
  split at h
  ·rename_i hb2
   have h3:=zez hb2;cases h;simp[lens] at h1;omega
  ·cases h
 ·cases h;simp[lens]
section
variable {ex:X}
theorem zrl (hx:Light ex) (hs:zcz ex):∀ (m:Nat) (r:R) (body body':List E) (r1:R),r.length<=m->zby ex body r=some (body',r1)->body'.length+weights body'+cost r1<=body.length+weights body+cost r:=by
 intro m
 induction m with
 | zero=>intro r body body' r1 hm h;have:r=[]:=List.eq_nil_of_length_eq_zero (by omega);subst this;rw[zby] at h;simp[begins] at h;obtain ⟨rfl,rfl⟩:=h;exact zL _
 | succ m ih=>
  intro r body body' r1 hm h;rw[zby] at h
  split at h
  ·split at h
   ·rename_i hh
    have h2:=zez hh
    split at h
    ·cases h
    ·rename_i e r2 he
     have h3:=hx _ _ _ he;simp only[Option.some.injEq,Prod.mk.injEq] at h;obtain ⟨rfl,rfl⟩:=h
     have h5:cost (if mk zvj r2=true then r2.tail else r2)<=cost r2:=by
      split
      ·exact zhl r2
      ·exact zL _
     rw[zbb,List.length_append];simp only[weights,weight,lens,List.length_nil,List.length_cons];have:none_.size=0:=rfl;omega
   ·split at h
    ·cases h
    ·rename_i e r2 he
     have h3:=hx _ _ _ he;have h6:=hs _ _ _ he
     split at h
     ·split at h
      ·rename_i hlt
       have:=ih r2.tail _ _ _ (by omega) h;have h7:=zhl r2;rw[zbb,List.length_append] at this;simp only[weights,List.length_nil,List.length_cons] at this;omega
      ·cases h
     ·cases h
      rw[zbb,List.length_append];simp only[weights,List.length_nil,List.length_cons];omega
  ·cases h;exact zL _
theorem zvk (hx:Light ex) (hs:zcz ex) {r:R} {e:E} {r1:R} (h:block ex r=some (e,r1)):weight e+1+cost r1<=cost r:=by
 unfold block at h
 split at h
 ·cases h
 ·rename_i ps r2 hp
  have h1:=zur _ _ _ _ hp
  split at h
  ·split at h
   ·cases h
   ·rename_i ts r3 hn
    have h2:=zkq hn
    have h3:cost (if ps.length=0 then r2 else r2.tail)<=cost r2:=by
     split
     ·exact zL _
     ·exact zhl _
    split at h
    ·cases h
    ·rename_i body r4 hb
     have h4:=zrl hx hs _ _ _ _ _ (zL _) hb
     split at h
     ·rename_i hr
      have h5:=zez hr;cases h;rw[ziw,weight,zeg,List.length_append];have:none_.size=0:=rfl;simp[lens,weights] at h1 h4;omega
     ·cases h
  ·cases h
theorem zls (hx:Light ex) (hs:zcz ex) {r:R} {e:E} {r1:R} (h:zbf ex r=some (e,r1)):weight e+1+cost r1<=cost r:=by
 have hz:none_.size=0:=rfl;cases r with
 | nil=>cases h
 | cons t r=>
  rw[zbf] at h;rw[cost]
  split at h
  ·cases h;simp[z0l,weight,lens,weights];try omega
  split at h
  ·cases h;simp[weight,lens,weights,hz];try omega
  split at h
  ·cases h;simp[weight,lens,weights];try omega
  split at h
  ·cases h;simp[weight,lens,weights];try omega
  split at h
  ·split at h
   ·cases h
   ·rename_i e' r2 he
    have h1:=hx _ _ _ he
    split at h
    ·have h5:=zhl r2
     cases h;omega
    ·cases h
  split at h
  ·have:=zvk hx hs h;omega
  ·cases h
theorem zkr (hx:Light ex) (hs:zcz ex) {r:R} {e:E} {s:Bool} {r1:R} (h:unary ex r=some (e,s,r1)):weight e+1+cost r1<=cost r:=by
 unfold unary at h
 split at h
 ·cases h
 ·rename_i e' r2 hp
  have h1:=zls hx hs hp;have h2:=zyp r2 e' false;simp only[Option.some.injEq] at h;rw[h] at h2;simp at h2;omega
theorem z15 (hx:Light ex) (hs:zcz ex):∀ (m:Nat) (r:R) (e e':E) (s s':Bool) (r1:R),r.length<=m->zc3 ex e s r=some (e',s',r1)->weight e'+cost r1<=weight e+cost r:=by
 intro m
 induction m with
 | zero=>intro r e e' s s' r1 hm h;have:r=[]:=List.eq_nil_of_length_eq_zero (by omega);subst this;rw[zc3] at h;simp[hd] at h;obtain ⟨rfl,rfl,rfl⟩:=h;exact zL _
 | succ m ih=>
  intro r e e' s s' r1 hm h;rw[zc3] at h
  split at h
  ·rename_i hh
   have h0:=zcj hh
   split at h
   ·cases h
   ·rename_i a sa r2 hu
    have h1:=zkr hx hs hu
    split at h
    ·have:=ih _ _ _ _ _ _ (by omega) h
     rw[zfp] at this;simp[weights] at this;omega
    ·cases h
  ·cases h;exact zL _
theorem znr (hx:Light ex) (hs:zcz ex) {r:R} {e:E} {s:Bool} {r1:R} (h:binary ex r=some (e,s,r1)):weight e+1+cost r1<=cost r:=by
 unfold binary at h
 split at h
 ·cases h
 ·rename_i e' s' r2 hu
  have h1:=zkr hx hs hu;have h2:=z15 hx hs _ _ _ _ _ _ _ (zL _) h;omega
theorem zts (hx:Light ex) (hs:zcz ex):∀ (m:Nat) (r:R) (s s':ByteArray) (xs xs':List E) (r1:R),r.length<=m->zbe ex s xs r=some (s',xs',r1)->s'.size+2*xs'.length+weights xs'+cost r1<=s.size+2*xs.length+weights xs+cost r:=by
 intro m
 induction m with
 | zero=>intro r s s' xs xs' r1 hm h;have:r=[]:=List.eq_nil_of_length_eq_zero (by omega);subst this;rw[zbe] at h;simp[hd] at h;obtain ⟨rfl,rfl,rfl⟩:=h;exact zL _
 | succ m ih=>
  intro r s s' xs xs' r1 hm h;rw[zbe] at h
  split at h
  ·rename_i hh
   have h0:=zcj hh
   split at h
   ·cases h
   ·rename_i a sa r2 hb
    have h1:=znr hx hs hb
    split at h
    ·have:=ih _ _ _ _ _ _ (by omega) h
     rw[ByteArray.size_append,zbb,List.length_append] at this;simp only[weights,List.length_nil,List.length_cons] at this;omega
    ·cases h
  ·cases h;exact zL _
theorem znv:∀ (m:Nat) (r:R) (s s':ByteArray) (xs xs':List E) (r1:R),r.length<=m->zbe ex s xs r=some (s',xs',r1)->xs.length<=xs'.length:=by
 intro m
 induction m with
 | zero=>intro r s s' xs xs' r1 hm h;have:r=[]:=List.eq_nil_of_length_eq_zero (by omega);subst this;rw[zbe] at h;simp[hd] at h;obtain ⟨rfl,rfl,rfl⟩:=h;exact zL _
 | succ m ih=>
  intro r s s' xs xs' r1 hm h;rw[zbe] at h
  split at h
  ·split at h
   ·cases h
   ·split at h
    ·have:=ih _ _ _ _ _ _ (by omega) h
     simp at this;omega
    ·cases h
  ·cases h;exact zL _
theorem zil (hx:Light ex) (hs:zcz ex) {r:R} {e:E} {r1:R} (h:message ex r=some (e,r1)):weight e+1+cost r1<=cost r:=by
 unfold message at h
 split at h
 ·rename_i hh
  have h0:=zcj hh;cases h;rw[zhy];simp[weights];omega
 ·split at h
  ·rename_i hh
   have h0:=zcj hh
   split at h
   ·cases h
   ·rename_i a s r2 hu
    have h1:=zkr hx hs hu;cases h;rw[zhy];simp[weights];omega
  ·split at h
   ·cases h
   ·rename_i sel args r2 hk
    have h1:=zts hx hs _ _ _ _ _ _ _ (zL _) hk
    split at h
    ·cases h
    ·rename_i hsel
     cases h;rw[zhy];have hz:none_.size=0:=rfl;simp[weights] at h1
     have hp:0<args.length:=by
      rw[zbe] at hk
      split at hk
      ·split at hk
       ·cases hk
       ·split at hk
        ·have:=znv _ _ _ _ _ _ _ (zL _) hk
         simp at this;omega
        ·cases hk
      ·cases hk
       exact absurd rfl hsel
     omega
theorem z4w (hx:Light ex) (hs:zcz ex):∀ (m:Nat) (r:R) (ks ks':List E) (r1:R),r.length<=m->zcm ex ks r=some (ks',r1)->ks'.length+weights ks'+cost r1<=ks.length+weights ks+cost r/\(mk zhd r=true->ks'.length+weights ks'+cost r1+1<=ks.length+weights ks+cost r):=by
 intro m
 induction m with
 | zero=>intro r ks ks' r1 hm h;have:r=[]:=List.eq_nil_of_length_eq_zero (by omega);subst this;rw[zcm] at h;simp[mk] at h;obtain ⟨rfl,rfl⟩:=h;exact ⟨zL _,fun h=>nomatch h⟩
 | succ m ih=>
  intro r ks ks' r1 hm h;rw[zcm] at h
  split at h
  ·rename_i hh
   have h0:=zez hh
   split at h
   ·cases h
   ·rename_i a r2 hb
    have h1:=zil hx hs hb
    split at h
    ·have:=(ih _ _ _ _ (by omega) h).1
     rw[zbb,List.length_append] at this;simp only[weights,List.length_nil,List.length_cons] at this;exact ⟨by omega,fun _=>by omega⟩
    ·cases h
  ·rename_i hh
   cases h;exact ⟨zL _,fun h=>absurd h hh⟩
theorem zlf (hx:Light ex) (hs:zcz ex) {e:E} {s:Bool} {r:R} {e':E} {r1:R} (hS:s=true->∃ e0 sl args,e=zec e0 sl args) (h:zc5 ex e s r=some (e',r1)):weight e'+cost r1<=weight e+cost r:=by
 unfold zc5 at h
 split at h
 ·rename_i hm
  split at h
  ·rename_i hst
   obtain ⟨e0,sl,args,rfl⟩:=hS hst
   split at h
   ·cases h
   ·rename_i ks r2 hc
    have h1:=(z4w hx hs _ _ _ _ _ (zL _) hc).2 hm;cases h;have hz:none_.size=0:=rfl;rw[zfp];simp only[zec,E.kids,E.text,List.headD_cons,List.tail_cons,weights,weight,lens,List.length_cons,List.length_nil] at h1 ⊢;omega
  ·cases h
 ·cases h;exact zL _
end
end Go.Proofs.YtlmhgeanknhcfaaGreatDoor.Gram
namespace Go.Proofs.YtlmhgeanknhcfaaGreatDoor
namespace Gram
open Tree
theorem zx0 {ex:X} (hx:Light ex) (hs:zcz ex):Light (zgd ex):=by
 intro r e r1 h;cases ha:Parser.asg r with
 | true=>
  have h0:=ha;unfold Parser.asg at h0;rw[zgd,if_pos h0] at h;rw[Bool.and_eq_true] at h0;have h1:=zcj h0.1;have h2:=zez h0.2
  split at h
  ·cases h
  ·rename_i e' r2 he
   have h3:=hx _ _ _ he;cases h;simp only[weight,weights,lens,List.length_cons,List.length_nil];omega
 | false=>
  cases hb:binary ex r with
  | none=>rw[Parser.zn3 ha hb] at h;cases h
  | some y=>
   obtain ⟨t,s,r2⟩:=y;have h1:=znr hx hs hb;cases hk:zbe ex none_ [] r2 with
   | none=>rw[Parser.zr1 ha hb hk] at h;cases h
   | some z=>
    obtain ⟨sel,L,r3⟩:=z;rw[Parser.zsd ha hb hk] at h;have h2:=zts hx hs _ _ _ _ _ _ _ (zL _) hk;have hz:none_.size=0:=rfl;simp only[weights,List.length_nil] at h2
    split at h
    ·have h3:=zlf hx hs (fun e=>by subst e;exact Parser.zop hb) h
     omega
    ·rename_i hsel
     have h3:=zlf hx hs (fun _=>⟨_,_,_,rfl⟩) h
     rw[zfp] at h3
     have hp:0<L.length:=by
      rw[zbe] at hk
      split at hk
      ·split at hk
       ·cases hk
       ·split at hk
        ·have:=znv _ _ _ _ _ _ _ (zL _) hk
         simp at this;omega
        ·cases hk
      ·cases hk
       exact absurd rfl hsel
     omega
theorem zd4:∀ n,Light (expr n)
 | 0=>fun _ _ _ h=>nomatch h
 | n+1=>zx0 (zd4 n) (zau n)
end Gram
namespace SpecParse
open Go.RowKit
open Strs Tree Gram
open Go.Proofs.YtlmhgeanknhcfaaGreatDoor.Parser
theorem zfu (s:ByteArray) (w:World) (hs:s.size<=1048576):
  Calls Tryz.prog 26 #[.string s] w (SpecTokens.Read (Tok.tokens s) w):=by
 by_cases h:4000<s.size
 ·exact SpecTokens.zmz s w hs h
 ·exact SpecTokens.zje s w h
theorem zcc (ts:List Tok.T) (i:Nat) (t:Tok.T) (h:ts[i]?=some t):(SpecTokens.row ts)[i*3]?=some (.int .i64 t.kind)/\(SpecTokens.row ts)[i*3+1]?=some (.string t.text)/\(SpecTokens.row ts)[i*3+2]?=some (.int .i64 t.num):=by
 induction ts generalizing i with
 | nil=>simp at h
 | cons x xs ih=>
  have e:SpecTokens.row (x::xs)=.int .i64 x.kind::.string x.text::.int .i64 x.num::SpecTokens.row xs:=rfl;rw[e];cases i with
  | zero=>simp at h;subst h;exact ⟨rfl,rfl,rfl⟩
  | succ i=>
   have:=ih i (by simpa using h);rw[show (i+1)*3=i*3+1+1+1 by omega]
   simpa using this
theorem zgh {w:World} {base:Nat} {a:Option Addr} {n c:Nat} {ts:List Tok.T} (h:w.ownsRow base 94 3 (.slice a n c) ts.length (SpecTokens.row ts)) (i:Nat) (t:Tok.T) (ht:ts[i]?=some t):
  ∃ b o,a=some ⟨b,o,none⟩/\b<w.heap.size/\w.cell? ⟨b,o+i*3,none⟩=some (.int .i64 t.kind)/\w.cell? ⟨b,o+i*3+1,none⟩=some (.string t.text)/\w.cell? ⟨b,o+i*3+2,none⟩=some (.int .i64 t.num):=by
 have h':=h;have hl:=(List.getElem?_eq_some_iff.1 ht).1;obtain ⟨hx,⟨_,hn⟩|⟨g,cap,cur,hv,hbg,hg,hnc,hcm,_,_⟩⟩:=h
 ·omega
 ·injection hv with h1 h2 h3
  subst h1 h2 h3;obtain ⟨r0,r1,r2⟩:=zcc ts i t ht;refine ⟨g,0,rfl,(h'.lt g rfl).2,?_,?_,?_⟩
  ·rw[Nat.zero_add,h'.cellAt _ (by omega)];exact r0
  ·rw[Nat.zero_add,h'.cellAt _ (by omega)];exact r1
  ·rw[Nat.zero_add,h'.cellAt _ (by omega)];exact r2
theorem zwz {P:Cst} {s:ByteArray} (h:Tok.tokens s=some P.toks) (h1:P.toks.length<=P.cap) (h2:P.cap<=maxLen):Fit P:=by obtain ⟨a,b,c⟩:=Tok.zg8 s _ h;exact ⟨a,h1,h2,fun t ht=>Nat.le_trans (Tok.z11 ht) c,fun t ht=>(b t ht).wf.1,fun t ht=>(b t ht).wf.2⟩
theorem zmb {w:World} {base:Nat} {e:TypeId} {size:Nat} {a:Option Addr} {n c m:Nat} {xs:List Value} (h:w.ownsRow base e size (.slice a n c) m xs):n=m/\m<=c/\c<=maxLen:=by
 obtain ⟨_,⟨hv,hn⟩|⟨g,cap,cur,hv,hbg,hg,hnc,hcm,_,_⟩⟩:=h
 ·injection hv with h1 h2 h3
  subst h2 h3 hn;exact ⟨rfl,zL _,Nat.zero_le _⟩
 ·injection hv with h1 h2 h3
  subst h2 h3;exact ⟨rfl,hnc,hcm⟩
end SpecParse
end Go.Proofs.YtlmhgeanknhcfaaGreatDoor
