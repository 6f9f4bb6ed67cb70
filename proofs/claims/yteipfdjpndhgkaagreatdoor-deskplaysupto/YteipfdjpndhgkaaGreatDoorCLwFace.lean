/- Package log answers as it is asked. -/
import Derived.Test.YteipfdjpndhgkaaGreatDoorCLwE
namespace Go.Proofs.YteipfdjpndhgkaaGreatDoor
open Go.RowKit Vs

theorem lface : LFace LT where
  but := fun ⟨v, wh, hw, hx⟩ hb hE => ⟨v, wh, hw, hx.but hb hE⟩
  newOk := fun w _ h0 h1 => newOk w h0 h1
  newNo := fun w _ h => newNo w h
  append := fun l p c h ok _ hl hc hp => lgAppend l p c h ok hl hc hp.at
  sync := fun h ok _ => lgSync h ok
  fail := fun n h0 h1 h _ _ => lgFail n h0 h1 h
  crash := fun n h0 h1 h ok _ => lgCrash n h0 h1 h ok
  read := fun h ok => (lgRead h ok).mono (fun _ _ ⟨q, c, h1, h2, h3⟩ => ⟨q, c, h1, h2.mono (fun _ _ _ => trivial), h3⟩)
end Go.Proofs.YteipfdjpndhgkaaGreatDoor
