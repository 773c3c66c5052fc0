/-
  GramU GramUW
-/
import Derived.Test.YtlmhgeanknhcfaaGreatDoorB15
import Derived.Test.YtlmhgeanknhcfaaGreatDoorB35
namespace Go.Proofs.YtlmhgeanknhcfaaGreatDoor.Gram
open Tree
def zdx (sel:ByteArray) (ps:List ByteArray) (r:R):Option (ByteArray×List ByteArray×R):=
 if hd 2 r then (if hd 1 r.tail then (if _h:r.tail.tail.length<r.length then zdx (sel++txt r) (ps++[txt r.tail]) r.tail.tail else none) else none) else some (sel,ps,r)
 termination_by r.length
 decreasing_by assumption
def zoe (r:R):Option (ByteArray×List ByteArray×R):=
 if hd 1 r then some (txt r,[],r.tail)
 else if hd 6 r then (if hd 1 r.tail then some (txt r,[txt r.tail],r.tail.tail) else none)
 else zdx none_ [] r
def pattern (r:R):Option (ByteArray×List ByteArray×R):=
 match zoe r with
 | none=>none
 | some (s,ps,r1)=>if s.size=0 then none else some (s,ps,r1)
theorem zgf {sel:ByteArray} {ps:List ByteArray} {r:R} (h:hd 2 r=false):zdx sel ps r=some (sel,ps,r):=by rw[zdx,h];rfl
theorem zkt {sel:ByteArray} {ps:List ByteArray} {r:R} (h:hd 2 r=true) (h2:hd 1 r.tail=false):zdx sel ps r=none:=by rw[zdx,if_pos h,h2];rfl
theorem zne {sel:ByteArray} {ps:List ByteArray} {r:R} (h:hd 2 r=true) (h2:hd 1 r.tail=true):zdx sel ps r=zdx (sel++txt r) (ps++[txt r.tail]) r.tail.tail:=by rw[zdx,if_pos h,if_pos h2,dif_pos];have h3:=zk3 h;have h4:=zmq r.tail;omega
def wd (c:ByteArray):R->Bool
 | []=>false
 | t::_=>decide (t.kind=8)&&decide (t.text=c)
def zfm:ByteArray:=⟨#[99,108,97,115,115]⟩
def ze6:ByteArray:=⟨#[101,120,116,101,110,100,115]⟩
def zi0:ByteArray:=⟨#[102,105,101,108,100,115]⟩
def zfs:ByteArray:=⟨#[109,101,116,104,111,100]⟩
def zb7:ByteArray:=⟨#[99,108,97,115,115,109,101,116,104,111,100]⟩
def z5l:ByteArray:=⟨#[101,110,100]⟩
def zco:ByteArray:=⟨#[109,97,105,110]⟩
section
variable (ex:X)
def zrv (cls:Bool) (r:R):Option (Data.M×R):=
 match pattern r with
 | none=>none
 | some (s,ps,r1)=>
  match names r1 with
  | none=>none
  | some (ts,r2)=>
   match zby ex [] r2 with
   | none=>none
   | some (body,r3)=>some (⟨s,cls,ps,ts,body⟩,r3)
def method (r:R):Option (Data.M×R):=
 if wd zb7 r then zrv ex true r.tail else if wd zfs r then zrv ex false r.tail else none
def fields (r:R):List ByteArray×R:=if wd zi0 r then zbx [] r.tail else ([],r)
def zce (ms:List Data.M) (r:R):Option (List Data.M×R):=
 if wd z5l r then some (ms,r.tail)
 else
  match method ex r with
  | none=>none
  | some (m,r1)=>if _h:r1.length<r.length then zce (ms++[m]) r1 else none
 termination_by r.length
 decreasing_by assumption
def zdj (r:R):Option (Data.C×R):=
 if hd 1 r&&(wd ze6 r.tail&&hd 1 r.tail.tail) then
  match zce ex [] (fields r.tail.tail.tail).2 with
  | none=>none
  | some (ms,r1)=>some (⟨txt r,txt r.tail.tail,(fields r.tail.tail.tail).1,ms⟩,r1)
 else none
def zbk (cs:List Data.C) (r:R):Option (List Data.C×R):=
 if wd zfm r then
  match zdj ex r.tail with
  | none=>none
  | some (c,r1)=>if _h:r1.length<r.length then zbk (cs++[c]) r1 else none
 else some (cs,r)
 termination_by r.length
 decreasing_by assumption
def unit (r:R):Option (Data.U×R):=
 match zbk ex [] r with
 | none=>none
 | some (cs,r1)=>
  if wd zco r1 then
   match names r1.tail with
   | none=>none
   | some (ts,r2)=>
    match zby ex [] r2 with
    | none=>none
    | some (body,r3)=>some (⟨cs,⟨zco,false,[],ts,body⟩⟩,r3)
  else none
end
end Go.Proofs.YtlmhgeanknhcfaaGreatDoor.Gram
namespace Go.Proofs.YtlmhgeanknhcfaaGreatDoor.Gram
open Tree
theorem zrk {c:ByteArray} {r:R} (h:wd c r=true):r.tail.length<r.length:=by
 cases r with
 | nil=>cases h
 | cons t r=>simp
theorem zef {c:ByteArray} {r:R} (h:wd c r=true):cost r.tail+1<=cost r:=by
 cases r with
 | nil=>cases h
 | cons t r=>rw[cost];simp;omega
theorem z2e (xs:List ByteArray) (x:ByteArray):lens (xs++[x])=lens xs+x.size:=by rw[zeg];simp[lens]
theorem zrq:∀ (m:Nat) (r:R) (sel sel':ByteArray) (ps ps':List ByteArray) (r1:R),r.length<=m->zdx sel ps r=some (sel',ps',r1)->r1.length<=r.length/\sel'.size+(ps'.length+lens ps')+cost r1<=sel.size+(ps.length+lens ps)+cost r:=by
 intro m
 induction m with
 | zero=>intro r sel sel' ps ps' r1 hm h;have:r=[]:=List.eq_nil_of_length_eq_zero (by omega);subst this;rw[zgf rfl] at h;cases h;exact ⟨zL _,zL _⟩
 | succ m ih=>
  intro r sel sel' ps ps' r1 hm h;cases h2:hd 2 r with
  | false=>rw[zgf h2] at h;cases h;exact ⟨zL _,zL _⟩
  | true=>
   cases h1:hd 1 r.tail with
   | false=>rw[zkt h2 h1] at h;cases h
   | true=>rw[zne h2 h1] at h;have l2:=zk3 h2;have l1:=zk3 h1;have c2:=zcj h2;have c1:=zcj h1;obtain ⟨a,b⟩:=ih _ _ _ _ _ _ (by omega) h;rw[z2e,List.length_append,ByteArray.size_append,List.length_singleton] at b;exact ⟨by omega,by omega⟩
theorem z0o {r:R} {s:ByteArray} {ps:List ByteArray} {r1:R} (h:zoe r=some (s,ps,r1)):r1.length<=r.length/\s.size+(ps.length+lens ps)+cost r1<=cost r:=by
 cases h1:hd 1 r with
 | true=>rw[zoe,if_pos h1] at h;have l:=zk3 h1;have c:=zcj h1;cases h;exact ⟨by omega,by simp only[List.length_nil,lens];omega⟩
 | false=>
  cases h6:hd 6 r with
  | true=>
   rw[zoe,h1,if_neg (by simp),if_pos h6] at h;cases h2:hd 1 r.tail with
   | false=>rw[h2] at h;cases h
   | true=>rw[h2] at h;have l:=zk3 h6;have l2:=zk3 h2;have c:=zcj h6;have c2:=zcj h2;cases h;exact ⟨by omega,by simp only[List.length_cons,List.length_nil,lens];omega⟩
  | false=>rw[zoe,h1,h6] at h;have:=zrq _ _ _ _ _ _ _ (zL _) h;have hz:none_.size=0:=rfl;simp only[List.length_nil,lens] at this;exact ⟨this.1,by omega⟩
theorem zsc {r:R} {s:ByteArray} {ps:List ByteArray} {r1:R} (h:pattern r=some (s,ps,r1)):r1.length<=r.length/\s.size+(ps.length+lens ps)+cost r1<=cost r:=by
 unfold pattern at h
 split at h
 ·cases h
 ·rename_i s' ps' r' h0
  split at h
  ·cases h
  ·cases h
   exact z0o h0
theorem ze0 (m:Data.M):weight (Data.zcs m)=m.params.length+lens m.params+(m.temps.length+lens m.temps)+(m.body.length+weights m.body):=by unfold Data.zcs;rw[weight,zeg,List.length_append];have:ByteArray.empty.size=0:=rfl;omega
section
variable {ex:X}
theorem zqr (hx:Light ex) (hs:zcz ex) {cls:Bool} {r:R} {m:Data.M} {r1:R} (h:zrv ex cls r=some (m,r1)):r1.length<=r.length/\m.sel.size+weight (Data.zcs m)+cost r1<=cost r:=by
 unfold zrv at h
 split at h
 ·cases h
 ·rename_i s ps ra ha
  split at h
  ·cases h
  ·rename_i ts rb hb
   split at h
   ·cases h
   ·rename_i body rc hc
    cases h;have h1:=zsc ha;have h2:=zkq hb;have h3:=zmk hb;have h4:=zrl hx hs _ _ _ _ _ (zL _) hc;have h5:=ztb hs _ _ _ _ _ (zL _) hc;rw[ze0];simp only[List.length_nil,weights] at h4;exact ⟨by omega,by simp only;omega⟩
theorem zgc (hx:Light ex) (hs:zcz ex) {r:R} {m:Data.M} {r1:R} (h:method ex r=some (m,r1)):r1.length<r.length/\m.sel.size+weight (Data.zcs m)+1+cost r1<=cost r:=by
 unfold method at h
 split at h
 ·rename_i hw
  have a:=zrk hw;have b:=zef hw;have c:=zqr hx hs h;exact ⟨by omega,by omega⟩
 ·split at h
  ·rename_i hw
   have a:=zrk hw;have b:=zef hw;have c:=zqr hx hs h;exact ⟨by omega,by omega⟩
  ·cases h
def zfl:List Data.M->Nat
 | []=>0
 | m::ms=>m.sel.size+weight (Data.zcs m)+1+zfl ms
theorem zrt (ms:List Data.M) (m:Data.M):zfl (ms++[m])=zfl ms+(m.sel.size+weight (Data.zcs m)+1):=by
 induction ms with
 | nil=>simp[zfl]
 | cons x xs ih=>simp only[List.cons_append,zfl,ih];omega
theorem zia {ms:List Data.M} {r:R} (h:wd z5l r=true):zce ex ms r=some (ms,r.tail):=by rw[zce,if_pos h]
theorem zf6 {ms:List Data.M} {r:R} (h:wd z5l r=false) (hm:method ex r=none):zce ex ms r=none:=by rw[zce,h,if_neg (by simp),hm]
theorem zkz (hx:Light ex) (hs:zcz ex) {ms:List Data.M} {r:R} {m:Data.M} {r1:R} (h:wd z5l r=false) (hm:method ex r=some (m,r1)):zce ex ms r=zce ex (ms++[m]) r1:=by rw[zce,h,if_neg (by simp),hm];simp only;rw[dif_pos (zgc hx hs hm).1]
theorem zp3 (hx:Light ex) (hs:zcz ex):∀ (n:Nat) (r:R) (ms ms':List Data.M) (r1:R),r.length<=n->zce ex ms r=some (ms',r1)->r1.length<=r.length/\zfl ms'+cost r1<=zfl ms+cost r:=by
 intro n
 induction n with
 | zero=>intro r ms ms' r1 hn h;have:r=[]:=List.eq_nil_of_length_eq_zero (by omega);subst this;rw[zf6 rfl rfl] at h;cases h
 | succ n ih=>
  intro r ms ms' r1 hn h;cases hw:wd z5l r with
  | true=>rw[zia hw] at h;have:=zef hw;have:=zrk hw;cases h;exact ⟨by omega,by omega⟩
  | false=>
   cases hm:method ex r with
   | none=>rw[zf6 hw hm] at h;cases h
   | some y=>obtain ⟨m,r2⟩:=y;rw[zkz hx hs hw hm] at h;obtain ⟨a,b⟩:=zgc hx hs hm;obtain ⟨c,d⟩:=ih _ _ _ _ (by omega) h;rw[zrt] at d;exact ⟨by omega,by omega⟩
theorem zu0 (r:R):(fields r).2.length<=r.length/\(fields r).1.length+lens (fields r).1+cost (fields r).2<=cost r:=by
 unfold fields
 split
 ·rename_i hw
  have h1:=zhq r.tail [];have h2:=zkn r.tail [];have h3:=zef hw;have h4:=zrk hw;simp only[List.length_nil,lens] at h1;exact ⟨by omega,by omega⟩
 ·exact ⟨zL _,by simp[lens]⟩
def zod (c:Data.C):Nat:=c.name.size+(c.parent.size+(c.fields.length+lens c.fields+zfl c.methods))
theorem zf2 (hx:Light ex) (hs:zcz ex) {r:R} {c:Data.C} {r1:R} (h:zdj ex r=some (c,r1)):r1.length<r.length/\zod c+1+cost r1<=cost r:=by
 unfold zdj at h
 split at h
 ·rename_i hc
  rw[Bool.and_eq_true,Bool.and_eq_true] at hc;obtain ⟨h1,h2,h3⟩:=hc
  split at h
  ·cases h
  ·rename_i ms r2 hm
   have a1:=zk3 h1;have a2:=zrk h2;have a3:=zk3 h3;have b1:=zcj h1;have b2:=zef h2;have b3:=zcj h3;have f:=zu0 r.tail.tail.tail;obtain ⟨g1,g2⟩:=zp3 hx hs _ _ _ _ _ (zL _) hm;cases h;simp only[zfl] at g2;refine ⟨by omega,?_⟩
   simp only[zod];omega
 ·cases h
def zfd:List Data.C->Nat
 | []=>0
 | c::cs=>zod c+1+zfd cs
theorem zsu (cs:List Data.C) (c:Data.C):zfd (cs++[c])=zfd cs+(zod c+1):=by
 induction cs with
 | nil=>simp[zfd]
 | cons x xs ih=>simp only[List.cons_append,zfd,ih];omega
theorem zep {cs:List Data.C} {r:R} (h:wd zfm r=false):zbk ex cs r=some (cs,r):=by rw[zbk,h];rfl
theorem zie {cs:List Data.C} {r:R} (h:wd zfm r=true) (hc:zdj ex r.tail=none):zbk ex cs r=none:=by rw[zbk,if_pos h,hc]
theorem zi1 (hx:Light ex) (hs:zcz ex) {cs:List Data.C} {r:R} {c:Data.C} {r1:R} (h:wd zfm r=true) (hc:zdj ex r.tail=some (c,r1)):zbk ex cs r=zbk ex (cs++[c]) r1:=by rw[zbk,if_pos h,hc];simp only;rw[dif_pos (by have:=(zf2 hx hs hc).1;have:=zrk h;omega)]
theorem zo8 (hx:Light ex) (hs:zcz ex):∀ (n:Nat) (r:R) (cs cs':List Data.C) (r1:R),r.length<=n->zbk ex cs r=some (cs',r1)->r1.length<=r.length/\zfd cs'+cost r1<=zfd cs+cost r:=by
 intro n
 induction n with
 | zero=>intro r cs cs' r1 hn h;have:r=[]:=List.eq_nil_of_length_eq_zero (by omega);subst this;rw[zep rfl] at h;cases h;exact ⟨zL _,zL _⟩
 | succ n ih=>
  intro r cs cs' r1 hn h;cases hw:wd zfm r with
  | false=>rw[zep hw] at h;cases h;exact ⟨zL _,zL _⟩
  | true=>
   cases hc:zdj ex r.tail with
   | none=>rw[zie hw hc] at h;cases h
   | some y=>obtain ⟨c,r2⟩:=y;rw[zi1 hx hs hw hc] at h;obtain ⟨a,b⟩:=zf2 hx hs hc;have l:=zrk hw;have k:=zef hw;obtain ⟨p,q⟩:=ih _ _ _ _ (by omega) h;rw[zsu] at q;exact ⟨by omega,by omega⟩
theorem z0s (hx:Light ex) (hs:zcz ex) {r:R} {u:Data.U} {r1:R} (h:unit ex r=some (u,r1)):zfd u.classes+weight (Data.zcs u.main)+cost r1<=cost r/\u.main.sel=zco:=by
 unfold unit at h
 split at h
 ·cases h
 ·rename_i cs ra ha
  split at h
  ·rename_i hw
   split at h
   ·cases h
   ·rename_i ts rb hb
    split at h
    ·cases h
    ·rename_i body rc hc
     cases h;obtain ⟨-,h1⟩:=zo8 hx hs _ _ _ _ _ (zL _) ha;have h2:=zkq hb;have h3:=zef hw;have h4:=zrl hx hs _ _ _ _ _ (zL _) hc;simp only[zfd,List.length_nil,weights] at h1 h4;rw[ze0];simp only[List.length_nil,lens];exact ⟨by omega,trivial⟩
  ·cases h
end
end Go.Proofs.YtlmhgeanknhcfaaGreatDoor.Gram
