import Derived.Test.YtcicpjgnpcnnmaaGreatDoorQ16
set_option maxHeartbeats 1000000
namespace Go.Proofs.YtcicpjgnpcnnmaaGreatDoor.BV
end Go.Proofs.YtcicpjgnpcnnmaaGreatDoor.BV
namespace Go.Proofs.YtcicpjgnpcnnmaaGreatDoor.LK
open BV
open Go.RowKit
theorem read_none(s:ByteArray)(w:World)(hs:s.size≤100000000)(h:rd s.data.toList=none) :
  Calls Tryz.prog 179 #[.string s] w fun e w'=>e = .returned (.tuple #[.slice none 0 0,.int .i64 40])∧Below w.heap.size w w' :=
 (read_any s w hs).mono fun e w' ⟨h1,h2⟩=>by
  rcases h1 with ⟨_,h1⟩ | ⟨us,A,c,h1,_⟩
  ·exact⟨h1,h2⟩
  ·rw[h]at h1;cases h1
def Units(us:List Int)(w:World)(e:Ending)(w':World):Prop:=∃ A c,e = .returned (.tuple #[.slice A us.length c,.int .i64 0])∧UAt w' A us∧us.length≤c∧Below w.heap.size w w'
theorem read_some(s:ByteArray)(us:List Int)(w:World)(hs:s.size≤100000000)(h:rd s.data.toList=some us) :
  Calls Tryz.prog 179 #[.string s] w (Units us w) :=
 (read_any s w hs).mono fun e w' ⟨h1,h2⟩=>by
  rcases h1 with ⟨h1,_⟩ | ⟨us',A,c,h1,he,hu,hc⟩
  ·rw[h]at h1;cases h1
  ·rw[h]at h1
   obtain rfl:=Option.some.inj h1;exact⟨A,c,he,hu,hc,h2⟩
theorem units_len{s:ByteArray}{us:List Int}(hs:s.size≤100000000)(h:rd s.data.toList=some us):us.length≤100000000:=by
 have:=(rd_units _ _ _ (Nat.le_refl _) h).1;rw[size_list]at this
 omega
theorem stands_any(us:List Int)(s:ByteArray)(A:Option Addr)(c:Nat)(w:World)(h:UAt w A us)(hm:us.length≤100000000)(hcap:us.length≤c)(hs:s.size≤100000000) :
  Calls Tryz.prog 180 #[.string s,.slice A us.length c] w fun e w'=>e = .returned (.bool (M us s.data.toList))∧Below w.heap.size w w':=by
 cases hf:fm us with
 | none=>exact stands_none us s A c w h hm hs hf
 | some k =>
  obtain⟨b,off,rfl,-,-⟩:=h (by have:=(fm_some hf).1;omega)
  exact stands_some us s b off c k w h hm hcap hs hf
theorem like_none(s p:ByteArray)(w:World)(hp:p.size≤100000000)(h:rd p.data.toList=none) :
  Calls Tryz.prog 150 #[.string s,.string p] w fun e w'=>e = .returned (.tuple #[.bool false,.int .i64 40])∧Below w.heap.size w w':=by
 have HR:=Hi (read_none p w hp h);clear h;go_enter Tryz.func150,Tryz.ntmps150;go_wp2_with fail;refine HR.out.mono ?_;rintro e w1 ⟨rfl,hb1⟩;go_wp2_with fail
 go_ret2
 exact⟨rfl,hb1⟩
theorem like_some(s p:ByteArray)(us:List Int)(w:World)(hs:s.size≤100000000)(hp:p.size≤100000000)(h:rd p.data.toList=some us) :
  Calls Tryz.prog 150 #[.string s,.string p] w fun e w'=>e = .returned (.tuple #[.bool (M us s.data.toList),.int .i64 0])∧Below w.heap.size w w':=by
 have HR:=Hi (read_some p us w hp h);have hm:=units_len hp h;have HS:=Hi (fun A c w1 hu hc=>stands_any us s A c w1 hu hm hc hs)
 clear h;generalize hn:us.length=n at *;generalize M us s.data.toList=r at *;go_enter Tryz.func150,Tryz.ntmps150;go_wp2_with fail;refine HR.out.mono ?_;rintro e w1 ⟨A,c,rfl,hu,hc,hb1⟩;rw[hn]at hc ⊢;clear hn;go_wp2_with fail;refine(HS.out A c w1 hu hc).mono ?_;rintro e w2 ⟨rfl,hb2⟩;go_wp2_with fail
 go_ret2
 exact⟨rfl,bthen hb1 hb2⟩
end Go.Proofs.YtcicpjgnpcnnmaaGreatDoor.LK
