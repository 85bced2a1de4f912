/- Several texts in one. -/
import Derived.Test.YtepfknfadpkigaaGreatPkAA
import Derived.Test.YtepfknfadpkigaaGreatPkBE
import Derived.Test.YtepfknfadpkigaaGreatPkAW
set_option linter.unusedVariables false
set_option linter.unusedSimpArgs false
section
namespace Go.Proofs.YtepfknfadpkigaaGreat
open Go.RowKit
set_option maxHeartbeats 4000000
set_option maxRecDepth 100000
theorem qAq (c:Rc) (hS:Scd c.ts) (w:World) (i:Nat) (t:TK) (px py:Nat) (e1:posV t.2.1.1 t.2.1.2=.complex .f64 px py) (h:RF c w i false)  (h0:(tk c.ts i).1.k=0) :
  Calls Tryz.prog 69 #[.pointer (some ⟨c.R,0,none⟩),.complex .f64 px py] w (Tl c w.heap.size w (.ok (.node (nd 70 t [] 0) []) i)):=by
 obtain⟨i0,hi,hz0,hz1,hz2⟩:=info_parts infoP
 obtain⟨qx,qy,f1⟩:=zAc (tk c.ts i).2.1.1 (tk c.ts i).2.1.2
 obtain⟨ex,ey,f2⟩:=zAc (tk c.ts i).2.2.1 (tk c.ts i).2.2.2
 have hfd:=zCp
 have HX:=oH (oA h e1)
 have HCR:Hid (c.R < w.heap.size):=oH h.lt
 have HNW:=oH (fun w (hX:RF c w i false)=>zAo c w i false hX qx qy ex ey f1 f2)
 have hk0:(((tk c.ts i).1.k:Int) == 0)=true:=by rw [h0];rfl
 have HEE:=oH (zBn c hS)
 clear h e1 f1 f2 hS h0
 generalize ((tk c.ts i).1.k:Int)=t0 at *
 generalize (⟨(tk c.ts i).1.x.toArray⟩:ByteArray)=t3 at *
 generalize (tk c.ts i).1.n=t4 at *
 go_enter Tryz.func69,Tryz.ntmps69
 have HDN:=dnode w 70 70 rfl t px py HX.out.2
 go_wp2_with fail
 refine HDN.mono ?_
 rintro e wn ⟨rfl,hwn⟩
 have HS0:Hid (SN c w (nd 70 t [] 0) w.heap.size (.ok [] i) 0 wn (.slice none 0 0) 0 []):=oH (by rw [hwn];exact SN.new _ HX.out.1)
 clear hwn HDN
 obtain⟨p,hp⟩:∃p,w.heap.size=p:=⟨_,rfl⟩
 try rw [hp]
 have HS0':Hid (∃v n xs,v=Value.slice none 0 0∧SN c w (nd 70 t [] 0) p (.ok [] i) 0 wn v n xs):=oH ⟨_,_,_,rfl,by rw [← hp];exact HS0.out⟩
 clear HS0
 obtain⟨v0,n0,xs0,hv0,hs0⟩:=HS0'.out
 have HA0:=oH hs0
 clear HS0' hs0 hv0
 have HKN:Hid (RF c wn i false):=oH (by
  rcases HA0.out.st with⟨l,j,us,h1,h2,_⟩ | ⟨j,h1,_⟩
  ·injection h1 with _ h1;rw [h1];exact h2
  ·cases h1)
 have HK:=HNW.out wn HKN.out
 go_wp2_with fail
 refine HK.mono ?_
 rintro e wa ⟨rfl,F0⟩
 have FF:=oH F0
 clear F0 HK HNW
 have HA1:Hid (SN c w (nd 70 t [] 0) p (.ok [] i) 0 wa v0 n0 xs0):=oH (HA0.out.fr2 HCR.out FF.out.up0 (by
  rcases HA0.out.st with⟨l,j,us,h1,h2,h3,h4⟩ | ⟨j,h1,_⟩
  ·exact .inl ⟨l,j,us,h1,h2.keep FF.out,h3,h4⟩
  ·cases h1))
 clear FF HKN
 go_wp2_with fail
 go_ret
 exact HA1.out.tl rfl
theorem qAr (c:Rc) (hS:Scd c.ts) (w:World) (i:Nat) (t:TK) (px py:Nat) (e1:posV t.2.1.1 t.2.1.2=.complex .f64 px py) (h:RF c w i false) (h0:(tk c.ts i).1.k≠0) (h1:isS (tk c.ts i) [59]=true) :
  Calls Tryz.prog 69 #[.pointer (some ⟨c.R,0,none⟩),.complex .f64 px py] w (Tl c w.heap.size w (.ok (.node (nd 70 t [] 0) []) i)):=by
 obtain⟨i0,hi,hz0,hz1,hz2⟩:=info_parts infoP
 obtain⟨qx,qy,f1⟩:=zAc (tk c.ts i).2.1.1 (tk c.ts i).2.1.2
 obtain⟨ex,ey,f2⟩:=zAc (tk c.ts i).2.2.1 (tk c.ts i).2.2.2
 have hfd:=zCp
 have HX:=oH (oA h e1)
 have HCR:Hid (c.R < w.heap.size):=oH h.lt
 have HNW:=oH (fun w (hX:RF c w i false)=>zAo c w i false hX qx qy ex ey f1 f2)
 have hk0:(((tk c.ts i).1.k:Int) == 0)=false:=by rw [beq_eq_false_iff_ne];omega
 have HEE:=oH (zBn c hS)
 have HT1:Hid (∀w,RF c w i false→Calls Tryz.prog 70 #[.pointer (some ⟨c.R,0,none⟩),.string ⟨([59]:List UInt8).toArray⟩] w fun e w'=>e=.returned (.bool true)∧Fr [] w w'):=oH (fun w hX=>by have H:=zAs c w i false [59] hX;rw [h1] at H;exact H)
 clear h e1 f1 f2 hS h0 h1
 generalize ((tk c.ts i).1.k:Int)=t0 at *
 generalize (⟨(tk c.ts i).1.x.toArray⟩:ByteArray)=t3 at *
 generalize (tk c.ts i).1.n=t4 at *
 go_enter Tryz.func69,Tryz.ntmps69
 have HDN:=dnode w 70 70 rfl t px py HX.out.2
 go_wp2_with fail
 refine HDN.mono ?_
 rintro e wn ⟨rfl,hwn⟩
 have HS0:Hid (SN c w (nd 70 t [] 0) w.heap.size (.ok [] i) 0 wn (.slice none 0 0) 0 []):=oH (by rw [hwn];exact SN.new _ HX.out.1)
 clear hwn HDN
 obtain⟨p,hp⟩:∃p,w.heap.size=p:=⟨_,rfl⟩
 try rw [hp]
 have HS0':Hid (∃v n xs,v=Value.slice none 0 0∧SN c w (nd 70 t [] 0) p (.ok [] i) 0 wn v n xs):=oH ⟨_,_,_,rfl,by rw [← hp];exact HS0.out⟩
 clear HS0
 obtain⟨v0,n0,xs0,hv0,hs0⟩:=HS0'.out
 have HA0:=oH hs0
 clear HS0' hs0 hv0
 have HKN:Hid (RF c wn i false):=oH (by
  rcases HA0.out.st with⟨l,j,us,h1,h2,_⟩ | ⟨j,h1,_⟩
  ·injection h1 with _ h1;rw [h1];exact h2
  ·cases h1)
 have HK:=HNW.out wn HKN.out
 go_wp2_with fail
 refine HK.mono ?_
 rintro e wa ⟨rfl,F0⟩
 have FF:=oH F0
 clear F0 HK HNW
 have HK:=HT1.out wa (HKN.out.keep FF.out)
 go_wp2_with fail
 refine HK.mono ?_
 rintro e wa1 ⟨rfl,F1⟩
 have FG:=oH (FF.out.on F1)
 clear F1 HK FF
 have FF:=FG
 clear FG
 have HA1:Hid (SN c w (nd 70 t [] 0) p (.ok [] i) 0 wa1 v0 n0 xs0):=oH (HA0.out.fr2 HCR.out FF.out.up0 (by
  rcases HA0.out.st with⟨l,j,us,h1,h2,h3,h4⟩ | ⟨j,h1,_⟩
  ·exact .inl ⟨l,j,us,h1,h2.keep FF.out,h3,h4⟩
  ·cases h1))
 clear FF HKN
 go_wp2_with fail
 go_ret
 exact HA1.out.tl rfl
theorem qAs (c:Rc) (hS:Scd c.ts) (w:World) (i:Nat) (t:TK) (px py:Nat) (e1:posV t.2.1.1 t.2.1.2=.complex .f64 px py) (h:RF c w i false) (h0:(tk c.ts i).1.k≠0) (h1:isS (tk c.ts i) [59]=false) (h2:isS (tk c.ts i) [124]=true) :
  Calls Tryz.prog 69 #[.pointer (some ⟨c.R,0,none⟩),.complex .f64 px py] w (Tl c w.heap.size w (.ok (.node (nd 70 t [] 0) []) i)):=by
 obtain⟨i0,hi,hz0,hz1,hz2⟩:=info_parts infoP
 obtain⟨qx,qy,f1⟩:=zAc (tk c.ts i).2.1.1 (tk c.ts i).2.1.2
 obtain⟨ex,ey,f2⟩:=zAc (tk c.ts i).2.2.1 (tk c.ts i).2.2.2
 have hfd:=zCp
 have HX:=oH (oA h e1)
 have HCR:Hid (c.R < w.heap.size):=oH h.lt
 have HNW:=oH (fun w (hX:RF c w i false)=>zAo c w i false hX qx qy ex ey f1 f2)
 have hk0:(((tk c.ts i).1.k:Int) == 0)=false:=by rw [beq_eq_false_iff_ne];omega
 have HEE:=oH (zBn c hS)
 have HT1:Hid (∀w,RF c w i false→Calls Tryz.prog 70 #[.pointer (some ⟨c.R,0,none⟩),.string ⟨([59]:List UInt8).toArray⟩] w fun e w'=>e=.returned (.bool false)∧Fr [] w w'):=oH (fun w hX=>by have H:=zAs c w i false [59] hX;rw [h1] at H;exact H)
 have HT2:Hid (∀w,RF c w i false→Calls Tryz.prog 70 #[.pointer (some ⟨c.R,0,none⟩),.string ⟨([124]:List UInt8).toArray⟩] w fun e w'=>e=.returned (.bool true)∧Fr [] w w'):=oH (fun w hX=>by have H:=zAs c w i false [124] hX;rw [h2] at H;exact H)
 clear h e1 f1 f2 hS h0 h1 h2
 generalize ((tk c.ts i).1.k:Int)=t0 at *
 generalize (⟨(tk c.ts i).1.x.toArray⟩:ByteArray)=t3 at *
 generalize (tk c.ts i).1.n=t4 at *
 go_enter Tryz.func69,Tryz.ntmps69
 have HDN:=dnode w 70 70 rfl t px py HX.out.2
 go_wp2_with fail
 refine HDN.mono ?_
 rintro e wn ⟨rfl,hwn⟩
 have HS0:Hid (SN c w (nd 70 t [] 0) w.heap.size (.ok [] i) 0 wn (.slice none 0 0) 0 []):=oH (by rw [hwn];exact SN.new _ HX.out.1)
 clear hwn HDN
 obtain⟨p,hp⟩:∃p,w.heap.size=p:=⟨_,rfl⟩
 try rw [hp]
 have HS0':Hid (∃v n xs,v=Value.slice none 0 0∧SN c w (nd 70 t [] 0) p (.ok [] i) 0 wn v n xs):=oH ⟨_,_,_,rfl,by rw [← hp];exact HS0.out⟩
 clear HS0
 obtain⟨v0,n0,xs0,hv0,hs0⟩:=HS0'.out
 have HA0:=oH hs0
 clear HS0' hs0 hv0
 have HKN:Hid (RF c wn i false):=oH (by
  rcases HA0.out.st with⟨l,j,us,h1,h2,_⟩ | ⟨j,h1,_⟩
  ·injection h1 with _ h1;rw [h1];exact h2
  ·cases h1)
 have HK:=HNW.out wn HKN.out
 go_wp2_with fail
 refine HK.mono ?_
 rintro e wa ⟨rfl,F0⟩
 have FF:=oH F0
 clear F0 HK HNW
 have HK:=HT1.out wa (HKN.out.keep FF.out)
 go_wp2_with fail
 refine HK.mono ?_
 rintro e wa1 ⟨rfl,F1⟩
 have FG:=oH (FF.out.on F1)
 clear F1 HK FF
 have FF:=FG
 clear FG
 have HK:=HT2.out wa1 (HKN.out.keep FF.out)
 go_wp2_with fail
 refine HK.mono ?_
 rintro e wa2 ⟨rfl,F1⟩
 have FG:=oH (FF.out.on F1)
 clear F1 HK FF
 have FF:=FG
 clear FG
 have HA1:Hid (SN c w (nd 70 t [] 0) p (.ok [] i) 0 wa2 v0 n0 xs0):=oH (HA0.out.fr2 HCR.out FF.out.up0 (by
  rcases HA0.out.st with⟨l,j,us,h1,h2,h3,h4⟩ | ⟨j,h1,_⟩
  ·exact .inl ⟨l,j,us,h1,h2.keep FF.out,h3,h4⟩
  ·cases h1))
 clear FF HKN
 go_wp2_with fail
 go_ret
 exact HA1.out.tl rfl
theorem qAt (c:Rc) (hS:Scd c.ts) (w:World) (i:Nat) (t:TK) (px py:Nat) (e1:posV t.2.1.1 t.2.1.2=.complex .f64 px py) (h:RF c w i false) (h0:(tk c.ts i).1.k≠0) (h1:isS (tk c.ts i) [59]=false) (h2:isS (tk c.ts i) [124]=false) (h3:isW (tk c.ts i) [69,78,68]=true) :
  Calls Tryz.prog 69 #[.pointer (some ⟨c.R,0,none⟩),.complex .f64 px py] w (Tl c w.heap.size w (.ok (.node (nd 70 t [] 0) []) i)):=by
 obtain⟨i0,hi,hz0,hz1,hz2⟩:=info_parts infoP
 obtain⟨qx,qy,f1⟩:=zAc (tk c.ts i).2.1.1 (tk c.ts i).2.1.2
 obtain⟨ex,ey,f2⟩:=zAc (tk c.ts i).2.2.1 (tk c.ts i).2.2.2
 have hfd:=zCp
 have HX:=oH (oA h e1)
 have HCR:Hid (c.R < w.heap.size):=oH h.lt
 have HNW:=oH (fun w (hX:RF c w i false)=>zAo c w i false hX qx qy ex ey f1 f2)
 have hk0:(((tk c.ts i).1.k:Int) == 0)=false:=by rw [beq_eq_false_iff_ne];omega
 have HEE:=oH (zBn c hS)
 have HT1:Hid (∀w,RF c w i false→Calls Tryz.prog 70 #[.pointer (some ⟨c.R,0,none⟩),.string ⟨([59]:List UInt8).toArray⟩] w fun e w'=>e=.returned (.bool false)∧Fr [] w w'):=oH (fun w hX=>by have H:=zAs c w i false [59] hX;rw [h1] at H;exact H)
 have HT2:Hid (∀w,RF c w i false→Calls Tryz.prog 70 #[.pointer (some ⟨c.R,0,none⟩),.string ⟨([124]:List UInt8).toArray⟩] w fun e w'=>e=.returned (.bool false)∧Fr [] w w'):=oH (fun w hX=>by have H:=zAs c w i false [124] hX;rw [h2] at H;exact H)
 have HT3:Hid (∀w,RF c w i false→Calls Tryz.prog 61 #[.pointer (some ⟨c.R,0,none⟩),.string ⟨([69,78,68]:List UInt8).toArray⟩] w fun e w'=>e=.returned (.bool true)∧Fr [] w w'):=oH (fun w hX=>by have H:=zAy c w i false [69,78,68] hX;rw [h3] at H;exact H)
 clear h e1 f1 f2 hS h0 h1 h2 h3
 generalize ((tk c.ts i).1.k:Int)=t0 at *
 generalize (⟨(tk c.ts i).1.x.toArray⟩:ByteArray)=t3 at *
 generalize (tk c.ts i).1.n=t4 at *
 go_enter Tryz.func69,Tryz.ntmps69
 have HDN:=dnode w 70 70 rfl t px py HX.out.2
 go_wp2_with fail
 refine HDN.mono ?_
 rintro e wn ⟨rfl,hwn⟩
 have HS0:Hid (SN c w (nd 70 t [] 0) w.heap.size (.ok [] i) 0 wn (.slice none 0 0) 0 []):=oH (by rw [hwn];exact SN.new _ HX.out.1)
 clear hwn HDN
 obtain⟨p,hp⟩:∃p,w.heap.size=p:=⟨_,rfl⟩
 try rw [hp]
 have HS0':Hid (∃v n xs,v=Value.slice none 0 0∧SN c w (nd 70 t [] 0) p (.ok [] i) 0 wn v n xs):=oH ⟨_,_,_,rfl,by rw [← hp];exact HS0.out⟩
 clear HS0
 obtain⟨v0,n0,xs0,hv0,hs0⟩:=HS0'.out
 have HA0:=oH hs0
 clear HS0' hs0 hv0
 have HKN:Hid (RF c wn i false):=oH (by
  rcases HA0.out.st with⟨l,j,us,h1,h2,_⟩ | ⟨j,h1,_⟩
  ·injection h1 with _ h1;rw [h1];exact h2
  ·cases h1)
 have HK:=HNW.out wn HKN.out
 go_wp2_with fail
 refine HK.mono ?_
 rintro e wa ⟨rfl,F0⟩
 have FF:=oH F0
 clear F0 HK HNW
 have HK:=HT1.out wa (HKN.out.keep FF.out)
 go_wp2_with fail
 refine HK.mono ?_
 rintro e wa1 ⟨rfl,F1⟩
 have FG:=oH (FF.out.on F1)
 clear F1 HK FF
 have FF:=FG
 clear FG
 have HK:=HT2.out wa1 (HKN.out.keep FF.out)
 go_wp2_with fail
 refine HK.mono ?_
 rintro e wa2 ⟨rfl,F1⟩
 have FG:=oH (FF.out.on F1)
 clear F1 HK FF
 have FF:=FG
 clear FG
 have HK:=HT3.out wa2 (HKN.out.keep FF.out)
 go_wp2_with fail
 refine HK.mono ?_
 rintro e wa3 ⟨rfl,F1⟩
 have FG:=oH (FF.out.on F1)
 clear F1 HK FF
 have FF:=FG
 clear FG
 have HA1:Hid (SN c w (nd 70 t [] 0) p (.ok [] i) 0 wa3 v0 n0 xs0):=oH (HA0.out.fr2 HCR.out FF.out.up0 (by
  rcases HA0.out.st with⟨l,j,us,h1,h2,h3,h4⟩ | ⟨j,h1,_⟩
  ·exact .inl ⟨l,j,us,h1,h2.keep FF.out,h3,h4⟩
  ·cases h1))
 clear FF HKN
 go_wp2_with fail
 go_ret
 exact HA1.out.tl rfl
theorem qAu (c:Rc) (hS:Scd c.ts) (w:World) (i:Nat) (t:TK) (px py:Nat) (e1:posV t.2.1.1 t.2.1.2=.complex .f64 px py) (h:RF c w i false) (h0:(tk c.ts i).1.k≠0) (h1:isS (tk c.ts i) [59]=false) (h2:isS (tk c.ts i) [124]=false) (h3:isW (tk c.ts i) [69,78,68]=false) (h4:isW (tk c.ts i) [69,76,83,69]=true) :
  Calls Tryz.prog 69 #[.pointer (some ⟨c.R,0,none⟩),.complex .f64 px py] w (Tl c w.heap.size w (.ok (.node (nd 70 t [] 0) []) i)):=by
 obtain⟨i0,hi,hz0,hz1,hz2⟩:=info_parts infoP
 obtain⟨qx,qy,f1⟩:=zAc (tk c.ts i).2.1.1 (tk c.ts i).2.1.2
 obtain⟨ex,ey,f2⟩:=zAc (tk c.ts i).2.2.1 (tk c.ts i).2.2.2
 have hfd:=zCp
 have HX:=oH (oA h e1)
 have HCR:Hid (c.R < w.heap.size):=oH h.lt
 have HNW:=oH (fun w (hX:RF c w i false)=>zAo c w i false hX qx qy ex ey f1 f2)
 have hk0:(((tk c.ts i).1.k:Int) == 0)=false:=by rw [beq_eq_false_iff_ne];omega
 have HEE:=oH (zBn c hS)
 have HT1:Hid (∀w,RF c w i false→Calls Tryz.prog 70 #[.pointer (some ⟨c.R,0,none⟩),.string ⟨([59]:List UInt8).toArray⟩] w fun e w'=>e=.returned (.bool false)∧Fr [] w w'):=oH (fun w hX=>by have H:=zAs c w i false [59] hX;rw [h1] at H;exact H)
 have HT2:Hid (∀w,RF c w i false→Calls Tryz.prog 70 #[.pointer (some ⟨c.R,0,none⟩),.string ⟨([124]:List UInt8).toArray⟩] w fun e w'=>e=.returned (.bool false)∧Fr [] w w'):=oH (fun w hX=>by have H:=zAs c w i false [124] hX;rw [h2] at H;exact H)
 have HT3:Hid (∀w,RF c w i false→Calls Tryz.prog 61 #[.pointer (some ⟨c.R,0,none⟩),.string ⟨([69,78,68]:List UInt8).toArray⟩] w fun e w'=>e=.returned (.bool false)∧Fr [] w w'):=oH (fun w hX=>by have H:=zAy c w i false [69,78,68] hX;rw [h3] at H;exact H)
 have HT4:Hid (∀w,RF c w i false→Calls Tryz.prog 61 #[.pointer (some ⟨c.R,0,none⟩),.string ⟨([69,76,83,69]:List UInt8).toArray⟩] w fun e w'=>e=.returned (.bool true)∧Fr [] w w'):=oH (fun w hX=>by have H:=zAy c w i false [69,76,83,69] hX;rw [h4] at H;exact H)
 clear h e1 f1 f2 hS h0 h1 h2 h3 h4
 generalize ((tk c.ts i).1.k:Int)=t0 at *
 generalize (⟨(tk c.ts i).1.x.toArray⟩:ByteArray)=t3 at *
 generalize (tk c.ts i).1.n=t4 at *
 go_enter Tryz.func69,Tryz.ntmps69
 have HDN:=dnode w 70 70 rfl t px py HX.out.2
 go_wp2_with fail
 refine HDN.mono ?_
 rintro e wn ⟨rfl,hwn⟩
 have HS0:Hid (SN c w (nd 70 t [] 0) w.heap.size (.ok [] i) 0 wn (.slice none 0 0) 0 []):=oH (by rw [hwn];exact SN.new _ HX.out.1)
 clear hwn HDN
 obtain⟨p,hp⟩:∃p,w.heap.size=p:=⟨_,rfl⟩
 try rw [hp]
 have HS0':Hid (∃v n xs,v=Value.slice none 0 0∧SN c w (nd 70 t [] 0) p (.ok [] i) 0 wn v n xs):=oH ⟨_,_,_,rfl,by rw [← hp];exact HS0.out⟩
 clear HS0
 obtain⟨v0,n0,xs0,hv0,hs0⟩:=HS0'.out
 have HA0:=oH hs0
 clear HS0' hs0 hv0
 have HKN:Hid (RF c wn i false):=oH (by
  rcases HA0.out.st with⟨l,j,us,h1,h2,_⟩ | ⟨j,h1,_⟩
  ·injection h1 with _ h1;rw [h1];exact h2
  ·cases h1)
 have HK:=HNW.out wn HKN.out
 go_wp2_with fail
 refine HK.mono ?_
 rintro e wa ⟨rfl,F0⟩
 have FF:=oH F0
 clear F0 HK HNW
 have HK:=HT1.out wa (HKN.out.keep FF.out)
 go_wp2_with fail
 refine HK.mono ?_
 rintro e wa1 ⟨rfl,F1⟩
 have FG:=oH (FF.out.on F1)
 clear F1 HK FF
 have FF:=FG
 clear FG
 have HK:=HT2.out wa1 (HKN.out.keep FF.out)
 go_wp2_with fail
 refine HK.mono ?_
 rintro e wa2 ⟨rfl,F1⟩
 have FG:=oH (FF.out.on F1)
 clear F1 HK FF
 have FF:=FG
 clear FG
 have HK:=HT3.out wa2 (HKN.out.keep FF.out)
 go_wp2_with fail
 refine HK.mono ?_
 rintro e wa3 ⟨rfl,F1⟩
 have FG:=oH (FF.out.on F1)
 clear F1 HK FF
 have FF:=FG
 clear FG
 have HK:=HT4.out wa3 (HKN.out.keep FF.out)
 go_wp2_with fail
 refine HK.mono ?_
 rintro e wa4 ⟨rfl,F1⟩
 have FG:=oH (FF.out.on F1)
 clear F1 HK FF
 have FF:=FG
 clear FG
 have HA1:Hid (SN c w (nd 70 t [] 0) p (.ok [] i) 0 wa4 v0 n0 xs0):=oH (HA0.out.fr2 HCR.out FF.out.up0 (by
  rcases HA0.out.st with⟨l,j,us,h1,h2,h3,h4⟩ | ⟨j,h1,_⟩
  ·exact .inl ⟨l,j,us,h1,h2.keep FF.out,h3,h4⟩
  ·cases h1))
 clear FF HKN
 go_wp2_with fail
 go_ret
 exact HA1.out.tl rfl
theorem qAv (c:Rc) (hS:Scd c.ts) (w:World) (i:Nat) (t:TK) (px py:Nat) (e1:posV t.2.1.1 t.2.1.2=.complex .f64 px py) (h:RF c w i false) (h0:(tk c.ts i).1.k≠0) (h1:isS (tk c.ts i) [59]=false) (h2:isS (tk c.ts i) [124]=false) (h3:isW (tk c.ts i) [69,78,68]=false) (h4:isW (tk c.ts i) [69,76,83,69]=false) (h5:isW (tk c.ts i) [69,76,83,73,70]=true) :
  Calls Tryz.prog 69 #[.pointer (some ⟨c.R,0,none⟩),.complex .f64 px py] w (Tl c w.heap.size w (.ok (.node (nd 70 t [] 0) []) i)):=by
 obtain⟨i0,hi,hz0,hz1,hz2⟩:=info_parts infoP
 obtain⟨qx,qy,f1⟩:=zAc (tk c.ts i).2.1.1 (tk c.ts i).2.1.2
 obtain⟨ex,ey,f2⟩:=zAc (tk c.ts i).2.2.1 (tk c.ts i).2.2.2
 have hfd:=zCp
 have HX:=oH (oA h e1)
 have HCR:Hid (c.R < w.heap.size):=oH h.lt
 have HNW:=oH (fun w (hX:RF c w i false)=>zAo c w i false hX qx qy ex ey f1 f2)
 have hk0:(((tk c.ts i).1.k:Int) == 0)=false:=by rw [beq_eq_false_iff_ne];omega
 have HEE:=oH (zBn c hS)
 have HT1:Hid (∀w,RF c w i false→Calls Tryz.prog 70 #[.pointer (some ⟨c.R,0,none⟩),.string ⟨([59]:List UInt8).toArray⟩] w fun e w'=>e=.returned (.bool false)∧Fr [] w w'):=oH (fun w hX=>by have H:=zAs c w i false [59] hX;rw [h1] at H;exact H)
 have HT2:Hid (∀w,RF c w i false→Calls Tryz.prog 70 #[.pointer (some ⟨c.R,0,none⟩),.string ⟨([124]:List UInt8).toArray⟩] w fun e w'=>e=.returned (.bool false)∧Fr [] w w'):=oH (fun w hX=>by have H:=zAs c w i false [124] hX;rw [h2] at H;exact H)
 have HT3:Hid (∀w,RF c w i false→Calls Tryz.prog 61 #[.pointer (some ⟨c.R,0,none⟩),.string ⟨([69,78,68]:List UInt8).toArray⟩] w fun e w'=>e=.returned (.bool false)∧Fr [] w w'):=oH (fun w hX=>by have H:=zAy c w i false [69,78,68] hX;rw [h3] at H;exact H)
 have HT4:Hid (∀w,RF c w i false→Calls Tryz.prog 61 #[.pointer (some ⟨c.R,0,none⟩),.string ⟨([69,76,83,69]:List UInt8).toArray⟩] w fun e w'=>e=.returned (.bool false)∧Fr [] w w'):=oH (fun w hX=>by have H:=zAy c w i false [69,76,83,69] hX;rw [h4] at H;exact H)
 have HT5:Hid (∀w,RF c w i false→Calls Tryz.prog 61 #[.pointer (some ⟨c.R,0,none⟩),.string ⟨([69,76,83,73,70]:List UInt8).toArray⟩] w fun e w'=>e=.returned (.bool true)∧Fr [] w w'):=oH (fun w hX=>by have H:=zAy c w i false [69,76,83,73,70] hX;rw [h5] at H;exact H)
 clear h e1 f1 f2 hS h0 h1 h2 h3 h4 h5
 generalize ((tk c.ts i).1.k:Int)=t0 at *
 generalize (⟨(tk c.ts i).1.x.toArray⟩:ByteArray)=t3 at *
 generalize (tk c.ts i).1.n=t4 at *
 go_enter Tryz.func69,Tryz.ntmps69
 have HDN:=dnode w 70 70 rfl t px py HX.out.2
 go_wp2_with fail
 refine HDN.mono ?_
 rintro e wn ⟨rfl,hwn⟩
 have HS0:Hid (SN c w (nd 70 t [] 0) w.heap.size (.ok [] i) 0 wn (.slice none 0 0) 0 []):=oH (by rw [hwn];exact SN.new _ HX.out.1)
 clear hwn HDN
 obtain⟨p,hp⟩:∃p,w.heap.size=p:=⟨_,rfl⟩
 try rw [hp]
 have HS0':Hid (∃v n xs,v=Value.slice none 0 0∧SN c w (nd 70 t [] 0) p (.ok [] i) 0 wn v n xs):=oH ⟨_,_,_,rfl,by rw [← hp];exact HS0.out⟩
 clear HS0
 obtain⟨v0,n0,xs0,hv0,hs0⟩:=HS0'.out
 have HA0:=oH hs0
 clear HS0' hs0 hv0
 have HKN:Hid (RF c wn i false):=oH (by
  rcases HA0.out.st with⟨l,j,us,h1,h2,_⟩ | ⟨j,h1,_⟩
  ·injection h1 with _ h1;rw [h1];exact h2
  ·cases h1)
 have HK:=HNW.out wn HKN.out
 go_wp2_with fail
 refine HK.mono ?_
 rintro e wa ⟨rfl,F0⟩
 have FF:=oH F0
 clear F0 HK HNW
 have HK:=HT1.out wa (HKN.out.keep FF.out)
 go_wp2_with fail
 refine HK.mono ?_
 rintro e wa1 ⟨rfl,F1⟩
 have FG:=oH (FF.out.on F1)
 clear F1 HK FF
 have FF:=FG
 clear FG
 have HK:=HT2.out wa1 (HKN.out.keep FF.out)
 go_wp2_with fail
 refine HK.mono ?_
 rintro e wa2 ⟨rfl,F1⟩
 have FG:=oH (FF.out.on F1)
 clear F1 HK FF
 have FF:=FG
 clear FG
 have HK:=HT3.out wa2 (HKN.out.keep FF.out)
 go_wp2_with fail
 refine HK.mono ?_
 rintro e wa3 ⟨rfl,F1⟩
 have FG:=oH (FF.out.on F1)
 clear F1 HK FF
 have FF:=FG
 clear FG
 have HK:=HT4.out wa3 (HKN.out.keep FF.out)
 go_wp2_with fail
 refine HK.mono ?_
 rintro e wa4 ⟨rfl,F1⟩
 have FG:=oH (FF.out.on F1)
 clear F1 HK FF
 have FF:=FG
 clear FG
 have HK:=HT5.out wa4 (HKN.out.keep FF.out)
 go_wp2_with fail
 refine HK.mono ?_
 rintro e wa5 ⟨rfl,F1⟩
 have FG:=oH (FF.out.on F1)
 clear F1 HK FF
 have FF:=FG
 clear FG
 have HA1:Hid (SN c w (nd 70 t [] 0) p (.ok [] i) 0 wa5 v0 n0 xs0):=oH (HA0.out.fr2 HCR.out FF.out.up0 (by
  rcases HA0.out.st with⟨l,j,us,h1,h2,h3,h4⟩ | ⟨j,h1,_⟩
  ·exact .inl ⟨l,j,us,h1,h2.keep FF.out,h3,h4⟩
  ·cases h1))
 clear FF HKN
 go_wp2_with fail
 go_ret
 exact HA1.out.tl rfl
theorem qAw (c:Rc) (hS:Scd c.ts) (w:World) (i:Nat) (t:TK) (px py:Nat) (e1:posV t.2.1.1 t.2.1.2=.complex .f64 px py) (h:RF c w i false) (h0:(tk c.ts i).1.k≠0) (h1:isS (tk c.ts i) [59]=false) (h2:isS (tk c.ts i) [124]=false) (h3:isW (tk c.ts i) [69,78,68]=false) (h4:isW (tk c.ts i) [69,76,83,69]=false) (h5:isW (tk c.ts i) [69,76,83,73,70]=false) (h6:isW (tk c.ts i) [85,78,84,73,76]=true) :
  Calls Tryz.prog 69 #[.pointer (some ⟨c.R,0,none⟩),.complex .f64 px py] w (Tl c w.heap.size w (.ok (.node (nd 70 t [] 0) []) i)):=by
 obtain⟨i0,hi,hz0,hz1,hz2⟩:=info_parts infoP
 obtain⟨qx,qy,f1⟩:=zAc (tk c.ts i).2.1.1 (tk c.ts i).2.1.2
 obtain⟨ex,ey,f2⟩:=zAc (tk c.ts i).2.2.1 (tk c.ts i).2.2.2
 have hfd:=zCp
 have HX:=oH (oA h e1)
 have HCR:Hid (c.R < w.heap.size):=oH h.lt
 have HNW:=oH (fun w (hX:RF c w i false)=>zAo c w i false hX qx qy ex ey f1 f2)
 have hk0:(((tk c.ts i).1.k:Int) == 0)=false:=by rw [beq_eq_false_iff_ne];omega
 have HEE:=oH (zBn c hS)
 have HT1:Hid (∀w,RF c w i false→Calls Tryz.prog 70 #[.pointer (some ⟨c.R,0,none⟩),.string ⟨([59]:List UInt8).toArray⟩] w fun e w'=>e=.returned (.bool false)∧Fr [] w w'):=oH (fun w hX=>by have H:=zAs c w i false [59] hX;rw [h1] at H;exact H)
 have HT2:Hid (∀w,RF c w i false→Calls Tryz.prog 70 #[.pointer (some ⟨c.R,0,none⟩),.string ⟨([124]:List UInt8).toArray⟩] w fun e w'=>e=.returned (.bool false)∧Fr [] w w'):=oH (fun w hX=>by have H:=zAs c w i false [124] hX;rw [h2] at H;exact H)
 have HT3:Hid (∀w,RF c w i false→Calls Tryz.prog 61 #[.pointer (some ⟨c.R,0,none⟩),.string ⟨([69,78,68]:List UInt8).toArray⟩] w fun e w'=>e=.returned (.bool false)∧Fr [] w w'):=oH (fun w hX=>by have H:=zAy c w i false [69,78,68] hX;rw [h3] at H;exact H)
 have HT4:Hid (∀w,RF c w i false→Calls Tryz.prog 61 #[.pointer (some ⟨c.R,0,none⟩),.string ⟨([69,76,83,69]:List UInt8).toArray⟩] w fun e w'=>e=.returned (.bool false)∧Fr [] w w'):=oH (fun w hX=>by have H:=zAy c w i false [69,76,83,69] hX;rw [h4] at H;exact H)
 have HT5:Hid (∀w,RF c w i false→Calls Tryz.prog 61 #[.pointer (some ⟨c.R,0,none⟩),.string ⟨([69,76,83,73,70]:List UInt8).toArray⟩] w fun e w'=>e=.returned (.bool false)∧Fr [] w w'):=oH (fun w hX=>by have H:=zAy c w i false [69,76,83,73,70] hX;rw [h5] at H;exact H)
 have HT6:Hid (∀w,RF c w i false→Calls Tryz.prog 61 #[.pointer (some ⟨c.R,0,none⟩),.string ⟨([85,78,84,73,76]:List UInt8).toArray⟩] w fun e w'=>e=.returned (.bool true)∧Fr [] w w'):=oH (fun w hX=>by have H:=zAy c w i false [85,78,84,73,76] hX;rw [h6] at H;exact H)
 clear h e1 f1 f2 hS h0 h1 h2 h3 h4 h5 h6
 generalize ((tk c.ts i).1.k:Int)=t0 at *
 generalize (⟨(tk c.ts i).1.x.toArray⟩:ByteArray)=t3 at *
 generalize (tk c.ts i).1.n=t4 at *
 go_enter Tryz.func69,Tryz.ntmps69
 have HDN:=dnode w 70 70 rfl t px py HX.out.2
 go_wp2_with fail
 refine HDN.mono ?_
 rintro e wn ⟨rfl,hwn⟩
 have HS0:Hid (SN c w (nd 70 t [] 0) w.heap.size (.ok [] i) 0 wn (.slice none 0 0) 0 []):=oH (by rw [hwn];exact SN.new _ HX.out.1)
 clear hwn HDN
 obtain⟨p,hp⟩:∃p,w.heap.size=p:=⟨_,rfl⟩
 try rw [hp]
 have HS0':Hid (∃v n xs,v=Value.slice none 0 0∧SN c w (nd 70 t [] 0) p (.ok [] i) 0 wn v n xs):=oH ⟨_,_,_,rfl,by rw [← hp];exact HS0.out⟩
 clear HS0
 obtain⟨v0,n0,xs0,hv0,hs0⟩:=HS0'.out
 have HA0:=oH hs0
 clear HS0' hs0 hv0
 have HKN:Hid (RF c wn i false):=oH (by
  rcases HA0.out.st with⟨l,j,us,h1,h2,_⟩ | ⟨j,h1,_⟩
  ·injection h1 with _ h1;rw [h1];exact h2
  ·cases h1)
 have HK:=HNW.out wn HKN.out
 go_wp2_with fail
 refine HK.mono ?_
 rintro e wa ⟨rfl,F0⟩
 have FF:=oH F0
 clear F0 HK HNW
 have HK:=HT1.out wa (HKN.out.keep FF.out)
 go_wp2_with fail
 refine HK.mono ?_
 rintro e wa1 ⟨rfl,F1⟩
 have FG:=oH (FF.out.on F1)
 clear F1 HK FF
 have FF:=FG
 clear FG
 have HK:=HT2.out wa1 (HKN.out.keep FF.out)
 go_wp2_with fail
 refine HK.mono ?_
 rintro e wa2 ⟨rfl,F1⟩
 have FG:=oH (FF.out.on F1)
 clear F1 HK FF
 have FF:=FG
 clear FG
 have HK:=HT3.out wa2 (HKN.out.keep FF.out)
 go_wp2_with fail
 refine HK.mono ?_
 rintro e wa3 ⟨rfl,F1⟩
 have FG:=oH (FF.out.on F1)
 clear F1 HK FF
 have FF:=FG
 clear FG
 have HK:=HT4.out wa3 (HKN.out.keep FF.out)
 go_wp2_with fail
 refine HK.mono ?_
 rintro e wa4 ⟨rfl,F1⟩
 have FG:=oH (FF.out.on F1)
 clear F1 HK FF
 have FF:=FG
 clear FG
 have HK:=HT5.out wa4 (HKN.out.keep FF.out)
 go_wp2_with fail
 refine HK.mono ?_
 rintro e wa5 ⟨rfl,F1⟩
 have FG:=oH (FF.out.on F1)
 clear F1 HK FF
 have FF:=FG
 clear FG
 have HK:=HT6.out wa5 (HKN.out.keep FF.out)
 go_wp2_with fail
 refine HK.mono ?_
 rintro e wa6 ⟨rfl,F1⟩
 have FG:=oH (FF.out.on F1)
 clear F1 HK FF
 have FF:=FG
 clear FG
 have HA1:Hid (SN c w (nd 70 t [] 0) p (.ok [] i) 0 wa6 v0 n0 xs0):=oH (HA0.out.fr2 HCR.out FF.out.up0 (by
  rcases HA0.out.st with⟨l,j,us,h1,h2,h3,h4⟩ | ⟨j,h1,_⟩
  ·exact .inl ⟨l,j,us,h1,h2.keep FF.out,h3,h4⟩
  ·cases h1))
 clear FF HKN
 go_wp2_with fail
 go_ret
 exact HA1.out.tl rfl
theorem qAx (c:Rc) (hS:Scd c.ts) (w:World) (i:Nat) (t:TK) (px py:Nat) (e1:posV t.2.1.1 t.2.1.2=.complex .f64 px py) (h:RF c w i false) (h0:(tk c.ts i).1.k≠0) (h1:isS (tk c.ts i) [59]=false) (h2:isS (tk c.ts i) [124]=false) (h3:isW (tk c.ts i) [69,78,68]=false) (h4:isW (tk c.ts i) [69,76,83,69]=false) (h5:isW (tk c.ts i) [69,76,83,73,70]=false) (h6:isW (tk c.ts i) [85,78,84,73,76]=false) (hne:kid (E0 c.ts) (.ok [] i)≠.out) :
  Calls Tryz.prog 69 #[.pointer (some ⟨c.R,0,none⟩),.complex .f64 px py] w (Tl c w.heap.size w ((kid (E0 c.ts) (.ok [] i)).re fun l=>.node (nd 70 t [] 0) l)):=by
 obtain⟨i0,hi,hz0,hz1,hz2⟩:=info_parts infoP
 obtain⟨qx,qy,f1⟩:=zAc (tk c.ts i).2.1.1 (tk c.ts i).2.1.2
 obtain⟨ex,ey,f2⟩:=zAc (tk c.ts i).2.2.1 (tk c.ts i).2.2.2
 have hfd:=zCp
 have HX:=oH (oA h e1)
 have HCR:Hid (c.R < w.heap.size):=oH h.lt
 have HNW:=oH (fun w (hX:RF c w i false)=>zAo c w i false hX qx qy ex ey f1 f2)
 have hk0:(((tk c.ts i).1.k:Int) == 0)=false:=by rw [beq_eq_false_iff_ne];omega
 have HEE:=oH (zBn c hS)
 have HO1:Hid (kid (E0 c.ts) (.ok [] i)≠.out):=oH hne
 clear hne
 have HT1:Hid (∀w,RF c w i false→Calls Tryz.prog 70 #[.pointer (some ⟨c.R,0,none⟩),.string ⟨([59]:List UInt8).toArray⟩] w fun e w'=>e=.returned (.bool false)∧Fr [] w w'):=oH (fun w hX=>by have H:=zAs c w i false [59] hX;rw [h1] at H;exact H)
 have HT2:Hid (∀w,RF c w i false→Calls Tryz.prog 70 #[.pointer (some ⟨c.R,0,none⟩),.string ⟨([124]:List UInt8).toArray⟩] w fun e w'=>e=.returned (.bool false)∧Fr [] w w'):=oH (fun w hX=>by have H:=zAs c w i false [124] hX;rw [h2] at H;exact H)
 have HT3:Hid (∀w,RF c w i false→Calls Tryz.prog 61 #[.pointer (some ⟨c.R,0,none⟩),.string ⟨([69,78,68]:List UInt8).toArray⟩] w fun e w'=>e=.returned (.bool false)∧Fr [] w w'):=oH (fun w hX=>by have H:=zAy c w i false [69,78,68] hX;rw [h3] at H;exact H)
 have HT4:Hid (∀w,RF c w i false→Calls Tryz.prog 61 #[.pointer (some ⟨c.R,0,none⟩),.string ⟨([69,76,83,69]:List UInt8).toArray⟩] w fun e w'=>e=.returned (.bool false)∧Fr [] w w'):=oH (fun w hX=>by have H:=zAy c w i false [69,76,83,69] hX;rw [h4] at H;exact H)
 have HT5:Hid (∀w,RF c w i false→Calls Tryz.prog 61 #[.pointer (some ⟨c.R,0,none⟩),.string ⟨([69,76,83,73,70]:List UInt8).toArray⟩] w fun e w'=>e=.returned (.bool false)∧Fr [] w w'):=oH (fun w hX=>by have H:=zAy c w i false [69,76,83,73,70] hX;rw [h5] at H;exact H)
 have HT6:Hid (∀w,RF c w i false→Calls Tryz.prog 61 #[.pointer (some ⟨c.R,0,none⟩),.string ⟨([85,78,84,73,76]:List UInt8).toArray⟩] w fun e w'=>e=.returned (.bool false)∧Fr [] w w'):=oH (fun w hX=>by have H:=zAy c w i false [85,78,84,73,76] hX;rw [h6] at H;exact H)
 clear h e1 f1 f2 hS h0 h1 h2 h3 h4 h5 h6
 generalize ((tk c.ts i).1.k:Int)=t0 at *
 generalize (⟨(tk c.ts i).1.x.toArray⟩:ByteArray)=t3 at *
 generalize (tk c.ts i).1.n=t4 at *
 go_enter Tryz.func69,Tryz.ntmps69
 have HDN:=dnode w 70 70 rfl t px py HX.out.2
 go_wp2_with fail
 refine HDN.mono ?_
 rintro e wn ⟨rfl,hwn⟩
 have HS0:Hid (SN c w (nd 70 t [] 0) w.heap.size (.ok [] i) 0 wn (.slice none 0 0) 0 []):=oH (by rw [hwn];exact SN.new _ HX.out.1)
 clear hwn HDN
 obtain⟨p,hp⟩:∃p,w.heap.size=p:=⟨_,rfl⟩
 try rw [hp]
 have HS0':Hid (∃v n xs,v=Value.slice none 0 0∧SN c w (nd 70 t [] 0) p (.ok [] i) 0 wn v n xs):=oH ⟨_,_,_,rfl,by rw [← hp];exact HS0.out⟩
 clear HS0
 obtain⟨v0,n0,xs0,hv0,hs0⟩:=HS0'.out
 have HA0:=oH hs0
 clear HS0' hs0 hv0
 have HKN:Hid (RF c wn i false):=oH (by
  rcases HA0.out.st with⟨l,j,us,h1,h2,_⟩ | ⟨j,h1,_⟩
  ·injection h1 with _ h1;rw [h1];exact h2
  ·cases h1)
 have HK:=HNW.out wn HKN.out
 go_wp2_with fail
 refine HK.mono ?_
 rintro e wa ⟨rfl,F0⟩
 have FF:=oH F0
 clear F0 HK HNW
 have HK:=HT1.out wa (HKN.out.keep FF.out)
 go_wp2_with fail
 refine HK.mono ?_
 rintro e wa1 ⟨rfl,F1⟩
 have FG:=oH (FF.out.on F1)
 clear F1 HK FF
 have FF:=FG
 clear FG
 have HK:=HT2.out wa1 (HKN.out.keep FF.out)
 go_wp2_with fail
 refine HK.mono ?_
 rintro e wa2 ⟨rfl,F1⟩
 have FG:=oH (FF.out.on F1)
 clear F1 HK FF
 have FF:=FG
 clear FG
 have HK:=HT3.out wa2 (HKN.out.keep FF.out)
 go_wp2_with fail
 refine HK.mono ?_
 rintro e wa3 ⟨rfl,F1⟩
 have FG:=oH (FF.out.on F1)
 clear F1 HK FF
 have FF:=FG
 clear FG
 have HK:=HT4.out wa3 (HKN.out.keep FF.out)
 go_wp2_with fail
 refine HK.mono ?_
 rintro e wa4 ⟨rfl,F1⟩
 have FG:=oH (FF.out.on F1)
 clear F1 HK FF
 have FF:=FG
 clear FG
 have HK:=HT5.out wa4 (HKN.out.keep FF.out)
 go_wp2_with fail
 refine HK.mono ?_
 rintro e wa5 ⟨rfl,F1⟩
 have FG:=oH (FF.out.on F1)
 clear F1 HK FF
 have FF:=FG
 clear FG
 have HK:=HT6.out wa5 (HKN.out.keep FF.out)
 go_wp2_with fail
 refine HK.mono ?_
 rintro e wa6 ⟨rfl,F1⟩
 have FG:=oH (FF.out.on F1)
 clear F1 HK FF
 have FF:=FG
 clear FG
 have HA1:Hid (SN c w (nd 70 t [] 0) p (.ok [] i) 0 wa6 v0 n0 xs0):=oH (HA0.out.fr2 HCR.out FF.out.up0 (by
  rcases HA0.out.st with⟨l,j,us,h1,h2,h3,h4⟩ | ⟨j,h1,_⟩
  ·exact .inl ⟨l,j,us,h1,h2.keep FF.out,h3,h4⟩
  ·cases h1))
 clear FF HKN
 obtain⟨j0,b0,X0,hst0⟩:=HA1.out.rf
 have HNE0:b0=false→(E0 c.ts) j0≠.out:=fun hb=>by
  rcases hst0 with⟨_,l,us,hr,_⟩ | ⟨hb2,_⟩
  ·exact zBm HO1.out hr
  ·rw [hb] at hb2;cases hb2
 have HR0:∀w1,Fr [] wa6 w1→Calls Tryz.prog 65 #[.pointer (some ⟨c.R,0,none⟩)] w1 fun e w'=>∃o a,encP o=.pointer a∧e=.returned (.pointer a)∧Fr [c.R] wa6 w'∧(b0=false→Itm c ((E0 c.ts)) j0 wa6 w' o)∧(b0=true→RF c w' j0 true):=fun w1 F1=>by
  refine( HEE.out w1 j0 b0 (X0.keep F1)  HNE0).mono ?_
  rintro e w' ⟨o,a,h1,h2,h3,h4,h5⟩
  exact⟨o,a,h1,h2,F1.up0.on h3,fun hb=>(h4 hb).low F1.size,h5⟩
 have HSS0:∀w':World,Fr [c.R] wa6 w'→(w'.cell? ⟨p,4,none⟩=some v0∧w'.frozen? ⟨p,4,none⟩=false):=fun w' F=>by
  have e3:=(F.block p (zAd HA1.out.nd) (by have:=HA1.out.hp;have:=HCR.out;simp;omega)).trans HA1.out.nd
  exact⟨(NodeAt.mk e3).c4,(NodeAt.mk e3).f 4⟩
 have HST0:=oH hst0
 have y4:=(HSS0 wa6 (Fr.refl _ _)).1
 have hrow0:∀w',Fr [c.R] wa6 w'→w'.ownsRow 0 26 1 v0 n0 xs0:=fun w' F=>zAf HA1.out.row F (fun q hq hm=>by
  have h1:=HA1.out.far q hq
  have h2:q=c.R:=by simpa using hm
  have:=HCR.out
  omega)
 have hnb0:=HA1.out.hn
 clear X0 HNE0 hst0
 go_wp2_with fail
 refine zAp 13 (S:=fun w'=>w'.cell? ⟨p,4,none⟩=some v0) (by kernel_rfl) ?_ (fun hHeld=>?_)
 ·exact(HSS0 _ (Fr.drew wa6).up0).1
 refine aT 14 0 ?_
 refine aT 14 1 ?_
 refine aT 14 2 ?_
 refine aT 14 3 ?_
 refine aT 14 4 ?_
 refine aT 14 5 ?_
 refine aT 14 6 ?_
 refine aT 14 7 ?_
 refine zAa (rs:=[8]) (by kernel_rfl) (by simp) ?_
 refine AllL.cons rfl (fun K hK=>?_) ?_
 rotate_left
 ·exact AllL.nil
 go_simp
 refine(HR0 _ (Fr.drew wa6)).mono ?_
 rintro e wb0 ⟨o0,a0,ha0,rfl,FB0,hi0,hb0⟩
 have H9:=(HSS0 wb0 FB0).1
 clear HR0
 go_wp2_with fail
 refine hK.out _ _ (H9) (fun hHeld=>?_)
 clear hK K
 try simp only[Act.put,oB,oC,oD,oE,oF,oG]
 refine zAa (rs:=[9]) (by kernel_rfl) (by simp) ?_
 refine AllL.cons rfl (fun K hK=>?_) ?_
 rotate_left
 ·exact AllL.nil
 go_simp
 have H9:=(HSS0 _ (FB0.on0 (Fr.alloc wb0 (.cells #[.pointer a0] 26)))).1
 refine hK.out _ _ (H9) (fun hHeld=>?_)
 clear hK K
 try simp only[Act.put,oB,oC,oD,oE,oF,oG]
 refine zAa (rs:=[10]) (by kernel_rfl) (by simp) ?_
 refine AllL.cons rfl (fun K hK=>?_) ?_
 rotate_left
 ·exact AllL.nil
 refine step_append_lies _ (by rfl) _ _ 38 (by rfl) 0 26 i0 _ 1 8 Tryz.underlying38 hi hz0 hz1 hz2 (by rfl) (by omega) v0 n0 _ (by rfl) ((hrow0 _ FB0).alloc _) ⟨wb0.heap.size,0,none⟩ 1 1 [.pointer a0] (by rfl) (by rfl) (new1 wb0 (.pointer a0) 26) (fun u hu=>(by simp at hu;subst hu;rfl)) (by omega) (by unfold maxLen;omega) (by omega) (Nat.zero_le _) (wb0.heap.size+1) (by simp) ?_
 intro g0 cap0 wd0 hown hgrow hat hlt
 have HE0:=oH (HA1.out.app HCR.out HST0.out ha0 FB0 hi0 hb0 hown hgrow hat)
 have H9:wd0.cell? ⟨p,4,none⟩=some v0∧wd0.frozen? ⟨p,4,none⟩=false:=by
  have n2:=(FB0.block p (zAd HA1.out.nd) (by have:=HA1.out.hp;have:=HCR.out;simp;omega)).trans HA1.out.nd
  have F12:Fr (obL v0) wb0 wd0:=((Fr.alloc wb0 _).up0).on (Fr.of_grown hgrow)
  have n6:=(F12.block p (zAd n2) (fun hm=>zAi HA1.out.row HA1.out.nd hm)).trans n2
  exact⟨(NodeAt.mk n6).c4,(NodeAt.mk n6).f 4⟩
 obtain⟨H9,f9⟩:=H9
 clear hown hgrow hat hlt hi0 hb0 FB0 HST0 hrow0 HSS0 y4 ha0
 refine hK.out _ _ (H9) (fun hHeld=>?_)
 clear hK K
 try simp only[Act.put,oB,oC,oD,oE,oF,oG]
 refine aT 14 11 ?_
 refine aT 14 12 ?_
 refine zAa (rs:=[13]) (by kernel_rfl) (by simp) ?_
 refine AllL.last rfl (by kernel_rfl) (fun K hK=>?_) ?_
 rotate_left
 ·exact AllL.nil
 go_simp
 refine hK.out _ _ ?_
 clear hK K
 try simp only[Act.put,oB,oC,oD,oE,oF,oG]
 refine zAl (by kernel_rfl) ?_ _
 obtain⟨wa0,hwa0⟩:∃wa,wd0.setCell ⟨p,4,none⟩ (.slice (some ⟨g0,0,none⟩) (n0+1) cap0)=wa:=⟨_,rfl⟩
 rw [hwa0] at HE0
 try rw [hwa0]
 clear H9 f9 hwa0
 go_wp2_with fail
 go_ret
 exact HE0.out.tl rfl
theorem zSu (c:Rc) (hS:Scd c.ts) (w:World) (i:Nat) (t:TK) (px py:Nat) (e1:posV t.2.1.1 t.2.1.2=.complex .f64 px py) (h:RF c w i false) (RES:Re) (hRES:RES=if aloB (tk c.ts i)=true then .ok (.node (nd 70 t [] 0) []) i else (E0 c.ts i).bnd fun x k=>.ok (.node (nd 70 t [] 0) [x]) k) (hne:RES≠.out) :
  Calls Tryz.prog 69 #[.pointer (some ⟨c.R,0,none⟩),.complex .f64 px py] w (Tl c w.heap.size w RES):=by
 have hal:aloB (tk c.ts i)=((tk c.ts i).1.k == 0||(isS (tk c.ts i) [59]||isS (tk c.ts i) [124])||(isW (tk c.ts i) [69,78,68]||isW (tk c.ts i) [69,76,83,69]||isW (tk c.ts i) [69,76,83,73,70]||isW (tk c.ts i) [85,78,84,73,76])):=by
  unfold aloB isS isW
  cases h5:((tk c.ts i).1.k == 5) <;> cases h6:((tk c.ts i).1.k == 6) <;> simp
 by_cases h0:(tk c.ts i).1.k=0
 ·have ha:aloB (tk c.ts i)=true:=by rw [hal,h0];simp
  rw [if_pos ha] at hRES
  subst hRES
  exact qAq c hS w i t px py e1 h h0
 have hb0:((tk c.ts i).1.k == 0)=false:=beq_eq_false_iff_ne.2 h0
 cases h1:isS (tk c.ts i) [59]
 rotate_left
 ·have ha:aloB (tk c.ts i)=true:=by rw [hal,h1];simp
  rw [if_pos ha] at hRES
  subst hRES
  exact qAr c hS w i t px py e1 h h0 h1
 cases h2:isS (tk c.ts i) [124]
 rotate_left
 ·have ha:aloB (tk c.ts i)=true:=by rw [hal,h2];simp
  rw [if_pos ha] at hRES
  subst hRES
  exact qAs c hS w i t px py e1 h h0 h1 h2
 cases h3:isW (tk c.ts i) [69,78,68]
 rotate_left
 ·have ha:aloB (tk c.ts i)=true:=by rw [hal,h3];simp
  rw [if_pos ha] at hRES
  subst hRES
  exact qAt c hS w i t px py e1 h h0 h1 h2 h3
 cases h4:isW (tk c.ts i) [69,76,83,69]
 rotate_left
 ·have ha:aloB (tk c.ts i)=true:=by rw [hal,h4];simp
  rw [if_pos ha] at hRES
  subst hRES
  exact qAu c hS w i t px py e1 h h0 h1 h2 h3 h4
 cases h5:isW (tk c.ts i) [69,76,83,73,70]
 rotate_left
 ·have ha:aloB (tk c.ts i)=true:=by rw [hal,h5];simp
  rw [if_pos ha] at hRES
  subst hRES
  exact qAv c hS w i t px py e1 h h0 h1 h2 h3 h4 h5
 cases h6:isW (tk c.ts i) [85,78,84,73,76]
 rotate_left
 ·have ha:aloB (tk c.ts i)=true:=by rw [hal,h6];simp
  rw [if_pos ha] at hRES
  subst hRES
  exact qAw c hS w i t px py e1 h h0 h1 h2 h3 h4 h5 h6
 have ha:aloB (tk c.ts i)=false:=by rw [hal,hb0,h1,h2,h3,h4,h5,h6];rfl
 rw [if_neg (by rw [ha];simp)] at hRES
 have hk:RES=(kid (E0 c.ts) (.ok [] i)).re fun l=>.node (nd 70 t [] 0) l:=by
  rw [hRES]
  unfold kid
  show _=((E0 c.ts i).bndL fun x k=>.ok ([]++[x]) k).re _
  cases E0 c.ts i <;> rfl
 rw [hk] at hne ⊢
 exact qAx c hS w i t px py e1 h h0 h1 h2 h3 h4 h5 h6 (zEm hne)
end Go.Proofs.YtepfknfadpkigaaGreat
end
