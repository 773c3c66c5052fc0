/-
  GramW SpecParse SpecParseW
-/
import Derived.Test.YtbigfeblomfflaaGreatDoorB36
import Derived.Test.YtbigfeblomfflaaGreatDoorB40
import Derived.Test.YtbigfeblomfflaaGreatDoorB34
namespace Go.Proofs.YtbigfeblomfflaaGreatDoor.Gram
open Tree
def cost:R->Nat
 | []=>0
 | t::r=>t.text.size+1+cost r
theorem cost_texts (r:R):cost r=Tok.texts r+r.length:=by
 induction r with
 | nil=>rfl
 | cons t r ih=>rw[cost,Tok.texts,ih,List.length_cons];omega
theorem cost_tail_mk {c:ByteArray} {r:R} (h:mk c r=true):cost r.tail+1<=cost r:=by
 cases r with
 | nil=>cases h
 | cons t r=>rw[cost];simp;omega
theorem cost_tail_hd {k:Int} {r:R} (h:hd k r=true):cost r.tail+(txt r).size+1=cost r:=by
 cases r with
 | nil=>cases h
 | cons t r=>rw[cost,txt];simp;omega
theorem cost_tail_le (r:R):cost r.tail<=cost r:=by
 cases r with
 | nil=>exact zL _
 | cons t r=>rw[cost];simp;try omega
def Light (ex:X):Prop:=∀ r e r1,ex r=some (e,r1)->weight e+1+cost r1<=cost r
theorem weight_send (e:E) (s:ByteArray) (L:List E):weight (eSend e s L)=s.size+(1+L.length)+(weight e+weights L):=by rw[eSend,weight,weights];simp[lens];omega
theorem weight_msg (s:ByteArray) (L:List E):weight (eMsg s L)=s.size+L.length+weights L:=by rw[eMsg,weight];simp[lens];omega
theorem un_light:∀ (r:R) (e:E) (s:Bool),weight (unLoop e s r).1+cost (unLoop e s r).2.2<=weight e+cost r
 | [],_,_=>zL _
 | t::r,e,s=>by
  rw[unLoop]
  split
  ·have h1:=un_light r (eSend e t.text []) true
   rw[weight_send] at h1;rw[cost];simp[weights] at h1;omega
  ·exact zL _
theorem par_light:∀ (r:R) (ps ps':List ByteArray) (r1:R),parLoop ps r=some (ps',r1)->ps'.length+lens ps'+cost r1<=ps.length+lens ps+cost r
 | [],ps,ps',r1,h=>by rw[parLoop] at h;cases h;exact zL _
 | [t],ps,ps',r1,h=>by
  rw[parLoop] at h
  split at h
  ·cases h
  ·cases h;exact zL _
 | t::u::r,ps,ps',r1,h=>by
  rw[parLoop] at h
  split at h
  ·split at h
   ·have:=par_light r _ _ _ h
    rw[lens_append,List.length_append] at this;simp[lens] at this;rw[cost,cost];omega
   ·cases h
  ·cases h;exact zL _
theorem nameLoop_light:∀ (r:R) (ts:List ByteArray),(nameLoop ts r).1.length+lens (nameLoop ts r).1+cost (nameLoop ts r).2<=ts.length+lens ts+cost r
 | [],_=>zL _
 | t::r,ts=>by
  rw[nameLoop]
  split
  ·have:=nameLoop_light r (ts++[t.text])
   rw[lens_append,List.length_append] at this;simp[lens] at this;rw[cost];omega
  ·exact zL _
theorem names_light {r:R} {ts:List ByteArray} {r1:R} (h:names r=some (ts,r1)):ts.length+lens ts+cost r1<=cost r:=by
 unfold names at h
 split at h
 ·rename_i hb
  have h1:=nameLoop_light r.tail [];have h2:=cost_tail_mk hb;simp only at h
  split at h
  ·rename_i hb2
   have h3:=cost_tail_mk hb2;cases h;simp[lens] at h1;omega
  ·cases h
 ·cases h;simp[lens]
section
variable {ex:X}
theorem st_light (hx:Light ex) (hs:Short ex):∀ (m:Nat) (r:R) (body body':List E) (r1:R),r.length<=m->stLoop ex body r=some (body',r1)->body'.length+weights body'+cost r1<=body.length+weights body+cost r:=by
 intro m
 induction m with
 | zero=>intro r body body' r1 hm h;have:r=[]:=List.eq_nil_of_length_eq_zero (by omega);subst this;rw[stLoop] at h;simp[begins] at h;obtain ⟨rfl,rfl⟩:=h;exact zL _
 | succ m ih=>
  intro r body body' r1 hm h;rw[stLoop] at h
  split at h
  ·split at h
   ·rename_i hh
    have h2:=cost_tail_mk hh
    split at h
    ·cases h
    ·rename_i e r2 he
     have h3:=hx _ _ _ he;simp only[Option.some.injEq,Prod.mk.injEq] at h;obtain ⟨rfl,rfl⟩:=h
     have h5:cost (if mk cDot r2=true then r2.tail else r2)<=cost r2:=by
      split
      ·exact cost_tail_le r2
      ·exact zL _
     rw[za1,List.length_append];simp only[weights,weight,lens,List.length_nil,List.length_cons];have:none_.size=0:=rfl;omega
   ·split at h
    ·cases h
    ·rename_i e r2 he
     have h3:=hx _ _ _ he;have h6:=hs _ _ _ he
     split at h
     ·split at h
      ·rename_i hlt
       have:=ih r2.tail _ _ _ (by omega) h;have h7:=cost_tail_le r2;rw[za1,List.length_append] at this;simp only[weights,List.length_nil,List.length_cons] at this;omega
      ·cases h
     ·cases h
      rw[za1,List.length_append];simp only[weights,List.length_nil,List.length_cons];omega
  ·cases h;exact zL _
theorem block_light (hx:Light ex) (hs:Short ex) {r:R} {e:E} {r1:R} (h:block ex r=some (e,r1)):weight e+1+cost r1<=cost r:=by
 unfold block at h
 split at h
 ·cases h
 ·rename_i ps r2 hp
  have h1:=par_light _ _ _ _ hp
  split at h
  ·split at h
   ·cases h
   ·rename_i ts r3 hn
    have h2:=names_light hn
    have h3:cost (if ps.length=0 then r2 else r2.tail)<=cost r2:=by
     split
     ·exact zL _
     ·exact cost_tail_le _
    split at h
    ·cases h
    ·rename_i body r4 hb
     have h4:=st_light hx hs _ _ _ _ _ (zL _) hb
     split at h
     ·rename_i hr
      have h5:=cost_tail_mk hr;cases h;rw[eBlock,weight,lens_append,List.length_append];have:none_.size=0:=rfl;simp[lens,weights] at h1 h4;omega
     ·cases h
  ·cases h
theorem primary_light (hx:Light ex) (hs:Short ex) {r:R} {e:E} {r1:R} (h:primary ex r=some (e,r1)):weight e+1+cost r1<=cost r:=by
 have hz:none_.size=0:=rfl;cases r with
 | nil=>cases h
 | cons t r=>
  rw[primary] at h;rw[cost]
  split at h
  ·cases h;simp[eName,weight,lens,weights];try omega
  split at h
  ·cases h;simp[weight,lens,weights,hz];try omega
  split at h
  ·cases h;simp[weight,lens,weights];try omega
  split at h
  ·cases h;simp[weight,lens,weights];try omega
  split at h
  ·split at h
   ·cases h
   ·rename_i e' r2 he
    have h1:=hx _ _ _ he
    split at h
    ·have h5:=cost_tail_le r2
     cases h;omega
    ·cases h
  split at h
  ·have:=block_light hx hs h;omega
  ·cases h
theorem unary_light (hx:Light ex) (hs:Short ex) {r:R} {e:E} {s:Bool} {r1:R} (h:unary ex r=some (e,s,r1)):weight e+1+cost r1<=cost r:=by
 unfold unary at h
 split at h
 ·cases h
 ·rename_i e' r2 hp
  have h1:=primary_light hx hs hp;have h2:=un_light r2 e' false;simp only[Option.some.injEq] at h;rw[h] at h2;simp at h2;omega
theorem bin_light (hx:Light ex) (hs:Short ex):∀ (m:Nat) (r:R) (e e':E) (s s':Bool) (r1:R),r.length<=m->binLoop ex e s r=some (e',s',r1)->weight e'+cost r1<=weight e+cost r:=by
 intro m
 induction m with
 | zero=>intro r e e' s s' r1 hm h;have:r=[]:=List.eq_nil_of_length_eq_zero (by omega);subst this;rw[binLoop] at h;simp[hd] at h;obtain ⟨rfl,rfl,rfl⟩:=h;exact zL _
 | succ m ih=>
  intro r e e' s s' r1 hm h;rw[binLoop] at h
  split at h
  ·rename_i hh
   have h0:=cost_tail_hd hh
   split at h
   ·cases h
   ·rename_i a sa r2 hu
    have h1:=unary_light hx hs hu
    split at h
    ·have:=ih _ _ _ _ _ _ (by omega) h
     rw[weight_send] at this;simp[weights] at this;omega
    ·cases h
  ·cases h;exact zL _
theorem binary_light (hx:Light ex) (hs:Short ex) {r:R} {e:E} {s:Bool} {r1:R} (h:binary ex r=some (e,s,r1)):weight e+1+cost r1<=cost r:=by
 unfold binary at h
 split at h
 ·cases h
 ·rename_i e' s' r2 hu
  have h1:=unary_light hx hs hu;have h2:=bin_light hx hs _ _ _ _ _ _ _ (zL _) h;omega
theorem key_light (hx:Light ex) (hs:Short ex):∀ (m:Nat) (r:R) (s s':ByteArray) (xs xs':List E) (r1:R),r.length<=m->keyLoop ex s xs r=some (s',xs',r1)->s'.size+2*xs'.length+weights xs'+cost r1<=s.size+2*xs.length+weights xs+cost r:=by
 intro m
 induction m with
 | zero=>intro r s s' xs xs' r1 hm h;have:r=[]:=List.eq_nil_of_length_eq_zero (by omega);subst this;rw[keyLoop] at h;simp[hd] at h;obtain ⟨rfl,rfl,rfl⟩:=h;exact zL _
 | succ m ih=>
  intro r s s' xs xs' r1 hm h;rw[keyLoop] at h
  split at h
  ·rename_i hh
   have h0:=cost_tail_hd hh
   split at h
   ·cases h
   ·rename_i a sa r2 hb
    have h1:=binary_light hx hs hb
    split at h
    ·have:=ih _ _ _ _ _ _ (by omega) h
     rw[ByteArray.size_append,za1,List.length_append] at this;simp only[weights,List.length_nil,List.length_cons] at this;omega
    ·cases h
  ·cases h;exact zL _
theorem keyLoop_args:∀ (m:Nat) (r:R) (s s':ByteArray) (xs xs':List E) (r1:R),r.length<=m->keyLoop ex s xs r=some (s',xs',r1)->xs.length<=xs'.length:=by
 intro m
 induction m with
 | zero=>intro r s s' xs xs' r1 hm h;have:r=[]:=List.eq_nil_of_length_eq_zero (by omega);subst this;rw[keyLoop] at h;simp[hd] at h;obtain ⟨rfl,rfl,rfl⟩:=h;exact zL _
 | succ m ih=>
  intro r s s' xs xs' r1 hm h;rw[keyLoop] at h
  split at h
  ·split at h
   ·cases h
   ·split at h
    ·have:=ih _ _ _ _ _ _ (by omega) h
     simp at this;omega
    ·cases h
  ·cases h;exact zL _
theorem message_light (hx:Light ex) (hs:Short ex) {r:R} {e:E} {r1:R} (h:message ex r=some (e,r1)):weight e+1+cost r1<=cost r:=by
 unfold message at h
 split at h
 ·rename_i hh
  have h0:=cost_tail_hd hh;cases h;rw[weight_msg];simp[weights];omega
 ·split at h
  ·rename_i hh
   have h0:=cost_tail_hd hh
   split at h
   ·cases h
   ·rename_i a s r2 hu
    have h1:=unary_light hx hs hu;cases h;rw[weight_msg];simp[weights];omega
  ·split at h
   ·cases h
   ·rename_i sel args r2 hk
    have h1:=key_light hx hs _ _ _ _ _ _ _ (zL _) hk
    split at h
    ·cases h
    ·rename_i hsel
     cases h;rw[weight_msg];have hz:none_.size=0:=rfl;simp[weights] at h1
     have hp:0<args.length:=by
      rw[keyLoop] at hk
      split at hk
      ·split at hk
       ·cases hk
       ·split at hk
        ·have:=keyLoop_args _ _ _ _ _ _ _ (zL _) hk
         simp at this;omega
        ·cases hk
      ·cases hk
       exact absurd rfl hsel
     omega
theorem cas_light (hx:Light ex) (hs:Short ex):∀ (m:Nat) (r:R) (ks ks':List E) (r1:R),r.length<=m->casLoop ex ks r=some (ks',r1)->ks'.length+weights ks'+cost r1<=ks.length+weights ks+cost r/\(mk cSemi r=true->ks'.length+weights ks'+cost r1+1<=ks.length+weights ks+cost r):=by
 intro m
 induction m with
 | zero=>intro r ks ks' r1 hm h;have:r=[]:=List.eq_nil_of_length_eq_zero (by omega);subst this;rw[casLoop] at h;simp[mk] at h;obtain ⟨rfl,rfl⟩:=h;exact ⟨zL _,fun h=>nomatch h⟩
 | succ m ih=>
  intro r ks ks' r1 hm h;rw[casLoop] at h
  split at h
  ·rename_i hh
   have h0:=cost_tail_mk hh
   split at h
   ·cases h
   ·rename_i a r2 hb
    have h1:=message_light hx hs hb
    split at h
    ·have:=(ih _ _ _ _ (by omega) h).1
     rw[za1,List.length_append] at this;simp only[weights,List.length_nil,List.length_cons] at this;exact ⟨by omega,fun _=>by omega⟩
    ·cases h
  ·rename_i hh
   cases h;exact ⟨zL _,fun h=>absurd h hh⟩
theorem cascade_light (hx:Light ex) (hs:Short ex) {e:E} {s:Bool} {r:R} {e':E} {r1:R} (hS:s=true->∃ e0 sl args,e=eSend e0 sl args) (h:cascade ex e s r=some (e',r1)):weight e'+cost r1<=weight e+cost r:=by
 unfold cascade at h
 split at h
 ·rename_i hm
  split at h
  ·rename_i hst
   obtain ⟨e0,sl,args,rfl⟩:=hS hst
   split at h
   ·cases h
   ·rename_i ks r2 hc
    have h1:=(cas_light hx hs _ _ _ _ _ (zL _) hc).2 hm;cases h;have hz:none_.size=0:=rfl;rw[weight_send];simp only[eSend,E.kids,E.text,List.headD_cons,List.tail_cons,weights,weight,lens,List.length_cons,List.length_nil] at h1 ⊢;omega
  ·cases h
 ·cases h;exact zL _
end
end Go.Proofs.YtbigfeblomfflaaGreatDoor.Gram
namespace Go.Proofs.YtbigfeblomfflaaGreatDoor
namespace Gram
open Tree
theorem exprF_light {ex:X} (hx:Light ex) (hs:Short ex):Light (exprF ex):=by
 intro r e r1 h;cases ha:Parser.asg r with
 | true=>
  have h0:=ha;unfold Parser.asg at h0;rw[exprF,if_pos h0] at h;rw[Bool.and_eq_true] at h0;have h1:=cost_tail_hd h0.1;have h2:=cost_tail_mk h0.2
  split at h
  ·cases h
  ·rename_i e' r2 he
   have h3:=hx _ _ _ he;cases h;simp only[weight,weights,lens,List.length_cons,List.length_nil];omega
 | false=>
  cases hb:binary ex r with
  | none=>rw[Parser.expr_bad ha hb] at h;cases h
  | some y=>
   obtain ⟨t,s,r2⟩:=y;have h1:=binary_light hx hs hb;cases hk:keyLoop ex none_ [] r2 with
   | none=>rw[Parser.expr_key ha hb hk] at h;cases h
   | some z=>
    obtain ⟨sel,L,r3⟩:=z;rw[Parser.expr_go ha hb hk] at h;have h2:=key_light hx hs _ _ _ _ _ _ _ (zL _) hk;have hz:none_.size=0:=rfl;simp only[weights,List.length_nil] at h2
    split at h
    ·have h3:=cascade_light hx hs (fun e=>by subst e;exact Parser.binary_sent hb) h
     omega
    ·rename_i hsel
     have h3:=cascade_light hx hs (fun _=>⟨_,_,_,rfl⟩) h
     rw[weight_send] at h3
     have hp:0<L.length:=by
      rw[keyLoop] at hk
      split at hk
      ·split at hk
       ·cases hk
       ·split at hk
        ·have:=keyLoop_args _ _ _ _ _ _ _ (zL _) hk
         simp at this;omega
        ·cases hk
      ·cases hk
       exact absurd rfl hsel
     omega
theorem expr_light:∀ n,Light (expr n)
 | 0=>fun _ _ _ h=>nomatch h
 | n+1=>exprF_light (expr_light n) (zat n)
def source (s:ByteArray):Option E:=match Tok.tokens s with|none=>none|some ts=>parse ts
theorem parse_light {r:R} {e:E} (h:parse r=some e):weight e+1<=cost r:=by
 unfold parse at h
 split at h
 ·rename_i e' he
  have h1:=expr_light _ _ _ _ he;cases h;omega
 ·cases h
theorem source_light {s:ByteArray} {e:E} (h:source s=some e):weight e<=4800:=by
 unfold source at h
 split at h
 ·cases h
 ·rename_i ts hts
  have h1:=parse_light h;obtain ⟨h2,-,h3⟩:=Tok.tokens_fine s ts hts;rw[cost_texts] at h1;omega
end Gram
namespace SpecParse
open Go.RowKit
open Strs Tree Gram
open Go.Proofs.YtbigfeblomfflaaGreatDoor.Parser
def eZero:E:=.mk 0 none_ 0 [] []
noncomputable def answer (s:ByteArray):Option E:=match source s with|none=>none|some e=>if isExpr e=true then some e else none
theorem tokens_any (s:ByteArray) (w:World) (hs:s.size<=1048576):
  Calls Tryz.prog 12 #[.string s] w (SpecTokens.Read (Tok.tokens s) w):=by
 by_cases h:4000<s.size
 ·exact SpecTokens.tokens_big s w hs h
 ·exact SpecTokens.tokens_small s w h
theorem row_at (ts:List Tok.T) (i:Nat) (t:Tok.T) (h:ts[i]?=some t):(SpecTokens.row ts)[i*3]?=some (.int .i64 t.kind)/\(SpecTokens.row ts)[i*3+1]?=some (.string t.text)/\(SpecTokens.row ts)[i*3+2]?=some (.int .i64 t.num):=by
 induction ts generalizing i with
 | nil=>simp at h
 | cons x xs ih=>
  have e:SpecTokens.row (x::xs)=.int .i64 x.kind::.string x.text::.int .i64 x.num::SpecTokens.row xs:=rfl;rw[e];cases i with
  | zero=>simp at h;subst h;exact ⟨rfl,rfl,rfl⟩
  | succ i=>
   have:=ih i (by simpa using h);rw[show (i+1)*3=i*3+1+1+1 by omega]
   simpa using this
theorem tok_cells {w:World} {base:Nat} {a:Option Addr} {n c:Nat} {ts:List Tok.T} (h:w.ownsRow base 82 3 (.slice a n c) ts.length (SpecTokens.row ts)) (i:Nat) (t:Tok.T) (ht:ts[i]?=some t):
  ∃ b o,a=some ⟨b,o,none⟩/\b<w.heap.size/\w.cell? ⟨b,o+i*3,none⟩=some (.int .i64 t.kind)/\w.cell? ⟨b,o+i*3+1,none⟩=some (.string t.text)/\w.cell? ⟨b,o+i*3+2,none⟩=some (.int .i64 t.num):=by
 have h':=h;have hl:=(List.getElem?_eq_some_iff.1 ht).1;obtain ⟨hx,⟨_,hn⟩|⟨g,cap,cur,hv,hbg,hg,hnc,hcm,_,_⟩⟩:=h
 ·omega
 ·injection hv with h1 h2 h3
  subst h1 h2 h3;obtain ⟨r0,r1,r2⟩:=row_at ts i t ht;refine ⟨g,0,rfl,(h'.lt g rfl).2,?_,?_,?_⟩
  ·rw[Nat.zero_add,h'.cellAt _ (by omega)];exact r0
  ·rw[Nat.zero_add,h'.cellAt _ (by omega)];exact r1
  ·rw[Nat.zero_add,h'.cellAt _ (by omega)];exact r2
theorem tok_fit {P:Cst} {s:ByteArray} (h:Tok.tokens s=some P.toks) (h1:P.toks.length<=P.cap) (h2:P.cap<=maxLen):Fit P:=by obtain ⟨a,b,c⟩:=Tok.tokens_fine s _ h;exact ⟨a,h1,h2,fun t ht=>Nat.le_trans (Tok.texts_mem ht) c,fun t ht=>(b t ht).wf.1,fun t ht=>(b t ht).wf.2⟩
theorem own_room {w:World} {base:Nat} {e:TypeId} {size:Nat} {a:Option Addr} {n c m:Nat} {xs:List Value} (h:w.ownsRow base e size (.slice a n c) m xs):n=m/\m<=c/\c<=maxLen:=by
 obtain ⟨_,⟨hv,hn⟩|⟨g,cap,cur,hv,hbg,hg,hnc,hcm,_,_⟩⟩:=h
 ·injection hv with h1 h2 h3
  subst h2 h3 hn;exact ⟨rfl,zL _,Nat.zero_le _⟩
 ·injection hv with h1 h2 h3
  subst h2 h3;exact ⟨rfl,hnc,hcm⟩
end SpecParse
end Go.Proofs.YtbigfeblomfflaaGreatDoor
